// Package rawguest lays what a guest has on its disk, volumes with files, for the
// tests of the layers that read and change it. It has the formats by the document's
// words once more, and calls no layer: what they all get wrong in the same way is
// seen here.
package rawguest

// File is a file with its bytes, or a folder with what is in it.
type File struct {
	Name   string
	Data   []byte
	Folder bool
	Inside []File
}

// Path is a file with its bytes, or a folder, by its way from the root.
type Path struct {
	Name   string
	Folder bool
	Data   []byte
}

// Paths: what a volume holds, as it must be told: the root first, each folder ahead
// of what is in it.
func Paths(files ...File) []Path {
	return within("", File{Folder: true, Inside: files}, nil)
}

// within: paths, and behind them a file, or a folder and all that is in it.
func within(name string, f File, list []Path) []Path {
	list = append(list, Path{Name: name, Folder: f.Folder, Data: f.Data})
	for _, x := range f.Inside {
		list = within(name+"/"+x.Name, x, list)
	}
	return list
}

// put: a number of so many bytes, the lowest first.
func put(b []byte, at, size, v int64) {
	for i := range size {
		b[at+i] = byte(v >> (8 * i))
	}
}

// laid: bytes are cut to units, and laid behind one another, each in one of these
// places; a 0 is behind them, if there is room.
func laid(b, data []byte, unit int64, places []int64) {
	for _, at := range places {
		n := copy(b[at:at+unit], data)
		data = data[n:]
		if int64(n) < unit {
			b[at+int64(n)] = 0
		}
	}
}

// units: how many hold so many bytes.
func units(n, unit int64) int64 { return (n + unit - 1) / unit }
