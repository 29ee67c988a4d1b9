package console

import (
	"strings"

	"turnkey/api"
	"turnkey/audit"
	"turnkey/disk"
	"turnkey/names"
	"turnkey/node"
	"turnkey/num"
	"turnkey/print"
	"turnkey/record"
	"turnkey/rules"
	"turnkey/shell"
	"turnkey/tree"
)

const ok = "ok"

// commands returns what executes each command with the text behind its name.
func commands() map[string]func(*Console, string) string {
	return map[string]func(*Console, string) string{
		"policy": (*Console).setPolicy,
		"file":   (*Console).file,
		"choice": (*Console).choose,
		"boot":   (*Console).boot,
		"sh":     (*Console).sh,
		"print":  (*Console).print,
		"log":    (*Console).log,
		"tree":   (*Console).tree,
		"crash":  (*Console).crash,
	}
}

// setPolicy makes a text the policy for the next boot.
func (c *Console) setPolicy(text string) string {
	text = strings.ReplaceAll(text, ";", "\n")
	if _, line := rules.Parse(text); line != 0 {
		return lines("line " + num.Dec(line))
	}
	c.policy = text
	return lines(ok)
}

// file creates a file for the next boot.
func (c *Console) file(text string) string {
	name, data, _ := strings.Cut(text, " ")
	if name == "" {
		return failure(api.ErrLine)
	}
	data = strings.ReplaceAll(data, ";", "\n")
	f, _, e := names.Create(c.fs, 0, name, api.Node{Kind: api.NodeFile, Mode: fileMode, Data: []byte(data)})
	if e != api.OK {
		return failure(e)
	}
	c.fs = f
	return lines(ok)
}

// choose sets the choices for the next boot.
func (c *Console) choose(text string) string {
	choice, right := numbers(text)
	if !right {
		return failure(api.ErrLine)
	}
	c.choice = choice
	return lines(ok)
}

// boot creates the shell.
func (c *Console) boot(text string) string {
	n, right := numbers(text)
	if !right || len(n) != 1 {
		return failure(api.ErrLine)
	}
	d, e := disk.New(room)
	if e != api.OK {
		return failure(e)
	}
	x, e := shell.Boot(c.policy, c.fs, nil, d, c.choice, nil, n[0])
	if e != api.OK {
		return failure(e)
	}
	c.shell, c.booted, c.out, c.err = x, true, 0, 0
	return lines(ok)
}

// sh runs a script and returns what it added to the outputs.
func (c *Console) sh(text string) string {
	if !c.booted {
		return failure(api.ErrNil)
	}
	c.shell, _ = shell.Line(c.shell, script(text))
	k := c.shell.S.Broker.Kern
	added := string(k.Out[c.out:])
	var l []string
	if complaints := string(k.Err[c.err:]); complaints != "" {
		for line := range strings.SplitSeq(strings.TrimSuffix(complaints, "\n"), "\n") {
			l = append(l, "err "+line)
		}
	}
	c.out, c.err = len(k.Out), len(k.Err)
	l = append(l, "status "+num.Dec(c.shell.Status)+" "+num.Dec(int(c.shell.Stop)))
	return added + lines(l...)
}

// print prints a script.
func (c *Console) print(text string) string {
	l, f := tree.Parse(script(text))
	if f.Code != api.OK {
		return lines("error " + num.Dec(int(f.Code)) + " " + num.Dec(f.At))
	}
	return print.Print(l)
}

// log returns the records of the log.
func (c *Console) log(text string) string {
	if e := c.alone(text); e != api.OK {
		return failure(e)
	}
	records := audit.Records(c.shell.S.Broker.Log)
	var l []string
	for _, r := range records {
		l = append(l, record.Line(r))
	}
	l = append(l, "log "+num.Dec(len(records)))
	return lines(l...)
}

// tree returns all paths.
func (c *Console) tree(text string) string {
	if e := c.alone(text); e != api.OK {
		return failure(e)
	}
	return lines(node.All(c.shell.S.Broker.Kern.Fs)...)
}

// crash crashes the disk of the log and opens it again.
func (c *Console) crash(text string) string {
	n, right := numbers(text)
	if !right || len(n) != 1 {
		return failure(api.ErrLine)
	}
	if !c.booted {
		return failure(api.ErrNil)
	}
	l, records, e := audit.Recover(c.shell.S.Broker.Log, n[0])
	if e != api.OK {
		return failure(e)
	}
	c.shell.S.Broker.Log = l
	return lines("log " + num.Dec(len(records)))
}

// alone returns why a command that needs a shell, and no words, cannot be executed.
func (c *Console) alone(text string) api.Errno {
	switch {
	case text != "":
		return api.ErrLine
	case !c.booted:
		return api.ErrNil
	}
	return api.OK
}

// script returns the script that a text is, in which tabs stand for line feeds.
func script(text string) string { return strings.ReplaceAll(text, "\t", "\n") }
