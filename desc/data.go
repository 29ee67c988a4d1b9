package desc

import (
	"turnkey/api"
	"turnkey/clone"
	"turnkey/names"
	"turnkey/pipe"
)

// Read reads up to n bytes from a Desc.
func Read(k api.Kern, d int, n int) (api.Kern, []byte, api.Errno) {
	out := clone.Kern(k)
	if !Check(k) {
		return out, nil, api.ErrArg
	}
	if !open(k, d) {
		return out, nil, api.ErrBadf
	}
	if n < 0 {
		return out, nil, api.ErrArg
	}
	data, e := read(&out, &out.Descs[d], n)
	return out, data, e
}

// Write writes b to a Desc, as far as it fits, and returns how many bytes were written.
func Write(k api.Kern, d int, b []byte) (api.Kern, int, api.Errno) {
	out := clone.Kern(k)
	if !Check(k) {
		return out, 0, api.ErrArg
	}
	if !open(k, d) {
		return out, 0, api.ErrBadf
	}
	n, e := write(&out, &out.Descs[d], b)
	return out, n, e
}

// read reads from one of the Descs of a kernel.
func read(k *api.Kern, d *api.Desc, n int) (data []byte, e api.Errno) {
	switch {
	case d.Kind == api.DescFile && d.Flags&api.FlagRead != 0:
		data, e = names.Read(k.Fs, d.Node, d.Off, n)
		d.Off += len(data)
		return data, e
	case d.Kind == api.DescRead:
		k.Pipes[d.Pipe], data, e = pipe.Read(k.Pipes[d.Pipe], n)
		return data, e
	case d.Kind == api.DescIn:
		n = min(n, len(k.In))
		data, k.In = clone.List(k.In[:n]), clone.List(k.In[n:])
		return data, api.OK
	case d.Kind == api.DescDir:
		return nil, api.ErrIsDir
	}
	return nil, api.ErrBadf
}

// write writes to one of the Descs of a kernel.
func write(k *api.Kern, d *api.Desc, b []byte) (n int, e api.Errno) {
	switch {
	case d.Kind == api.DescFile && d.Flags&api.FlagWrite != 0:
		return writeFile(k, d, b)
	case d.Kind == api.DescWrite:
		k.Pipes[d.Pipe], n, e = pipe.Write(k.Pipes[d.Pipe], b)
		return n, e
	case d.Kind == api.DescOut:
		return writeStream(&k.Out, b)
	case d.Kind == api.DescErr:
		return writeStream(&k.Err, b)
	case d.Kind == api.DescDir:
		return 0, api.ErrIsDir
	}
	return 0, api.ErrBadf
}

func writeFile(k *api.Kern, d *api.Desc, b []byte) (int, api.Errno) {
	off := d.Off
	if d.Flags&api.FlagAppend != 0 {
		off = len(k.Fs.Nodes[d.Node].Data)
	}
	f, n, e := names.Write(k.Fs, d.Node, off, b)
	if e != api.OK {
		return 0, e
	}
	k.Fs = f
	d.Off = off + n
	return n, api.OK
}

func writeStream(stream *[]byte, b []byte) (int, api.Errno) {
	n := min(len(b), api.MaxOut-len(*stream))
	if n == 0 && len(b) > 0 {
		return 0, api.ErrFull
	}
	*stream = append(*stream, b[:n]...)
	return n, api.OK
}
