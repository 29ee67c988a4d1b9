package names

import (
	"turnkey/api"
	"turnkey/clone"
)

// Write writes b at an offset of a file, as far as it fits, and returns how many bytes were written.
func Write(f api.Fs, number int, off int, b []byte) (api.Fs, int, api.Errno) {
	out := clone.Fs(f)
	if e := checkFile(f, number); e != api.OK {
		return out, 0, e
	}
	if off < 0 || off > api.MaxData {
		return out, 0, api.ErrArg
	}
	if len(b) == 0 {
		return out, 0, api.OK
	}
	if off == api.MaxData {
		return out, 0, api.ErrFull
	}
	old := f.Nodes[number].Data
	end := min(off+len(b), api.MaxData)
	data := make([]byte, max(len(old), end))
	copy(data, old)
	n := copy(data[off:end], b)
	out.Nodes[number].Data = data
	return out, n, api.OK
}

// Read returns up to n bytes of a file from an offset on.
func Read(f api.Fs, number int, off int, n int) ([]byte, api.Errno) {
	if e := checkFile(f, number); e != api.OK {
		return nil, e
	}
	if off < 0 || n < 0 {
		return nil, api.ErrArg
	}
	data := f.Nodes[number].Data
	if off >= len(data) {
		return nil, api.OK
	}
	return clone.List(data[off:][:min(n, len(data)-off)]), api.OK
}

// Trunc removes all data of a file.
func Trunc(f api.Fs, number int) (api.Fs, api.Errno) {
	out := clone.Fs(f)
	e := checkFile(f, number)
	if e == api.OK {
		out.Nodes[number].Data = nil
	}
	return out, e
}

// checkFile returns why a node has no data.
func checkFile(f api.Fs, number int) api.Errno {
	if !has(f, number) {
		return api.ErrArg
	}
	switch f.Nodes[number].Kind {
	case api.NodeDir:
		return api.ErrIsDir
	case api.NodeLink:
		return api.ErrInval
	}
	return api.OK
}
