package rules

import (
	"slices"
	"strings"

	"turnkey/api"
	"turnkey/record"
)

// write returns the text of a policy, valid or not.
func write(p api.Policy) string {
	var out strings.Builder
	add := func(words ...string) {
		out.WriteString(strings.Join(words, " "))
		out.WriteByte('\n')
	}
	add("root", p.Root)
	for _, r := range p.Rules {
		add(ruleWords(r)...)
	}
	for _, r := range p.Env {
		add(settingWords(r)...)
	}
	return out.String()
}

func ruleWords(r api.Rule) []string {
	verdict := "deny"
	if r.Allow {
		verdict = "allow"
	}
	out := []string{verdict, opsWord(r.Ops), r.Path}
	if r.With {
		out = append(out, "args")
		out = append(out, r.Args...)
	}
	if r.More {
		out = append(out, anyMore)
	}
	return out
}

func opsWord(ops []int) string {
	if slices.Equal(ops, governed()) {
		return everything
	}
	var names []string
	for _, op := range ops {
		names = append(names, record.Word(op))
	}
	return strings.Join(names, ",")
}

func settingWords(r api.EnvRule) []string {
	switch r.Kind {
	case api.EnvKeep:
		return []string{"env", "keep", r.Pattern}
	case api.EnvDrop:
		return []string{"env", "drop", r.Pattern}
	}
	return []string{"env", "set", r.Pattern + "=" + r.Value}
}
