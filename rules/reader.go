package rules

import (
	"iter"
	"slices"
	"strings"

	"turnkey/api"
	"turnkey/clone"
	"turnkey/env"
)

// reader is a policy while it is read.
type reader struct {
	policy api.Policy
	number int
	first  bool
}

// lines iterates the lines that have words, with their numbers.
func lines(text string) iter.Seq2[int, []string] {
	return func(yield func(int, []string) bool) {
		number := 0
		for line := range strings.SplitSeq(text, "\n") {
			number++
			if words := split(line); len(words) > 0 && !yield(number, words) {
				return
			}
		}
	}
}

// split returns the words of a line that are not ignored.
func split(line string) []string {
	words := strings.FieldsFunc(line, func(c rune) bool { return c == ' ' || c == '\t' })
	comment := slices.IndexFunc(words, func(w string) bool { return strings.HasPrefix(w, "#") })
	if comment >= 0 {
		return words[:comment:comment]
	}
	return words
}

// need raises a bad line unless something holds.
func (r *reader) need(holds bool) {
	if !holds {
		panic(badLine{r.number})
	}
}

// line reads a line.
func (r *reader) line(words []string) {
	switch words[0] {
	case "root":
		r.need(r.first && len(words) == 2 && pathError(words[1]) == api.OK)
		r.policy.Root = words[1]
	case "allow", "deny":
		r.rule(words)
	case "env":
		r.setting(words)
	default:
		r.need(false)
	}
	r.first = false
}

// rule reads a line that allows or denies.
func (r *reader) rule(words []string) {
	r.need(len(words) >= 3 && len(r.policy.Rules) < api.MaxRules)
	ops, ok := Ops(words[1])
	r.need(ok)
	rule := api.Rule{Allow: words[0] == "allow", Ops: ops, Path: words[2]}
	r.need(strings.HasPrefix(rule.Path, "/") && len(rule.Path) <= api.MaxPath)
	if len(words) > 3 {
		r.need(words[3] == "args" && slices.Equal(ops, []int{api.OpSpawn}))
		rule.With = true
		rule.Args, rule.More = r.arguments(words[4:])
	}
	r.policy.Rules = append(r.policy.Rules, rule)
}

// arguments reads what follows args.
func (r *reader) arguments(words []string) ([]string, bool) {
	n := len(words)
	more := n > 0 && words[n-1] == anyMore
	if more {
		words = words[:n-1]
	}
	r.need(len(words) <= api.MaxArgs)
	for _, w := range words {
		r.need(len(w) <= api.MaxArg)
	}
	return clone.List(words), more
}

// setting reads a line that keeps, drops or sets settings.
func (r *reader) setting(words []string) {
	r.need(len(words) >= 3)
	switch words[1] {
	case "keep":
		r.patterns(api.EnvKeep, words[2:])
	case "drop":
		r.patterns(api.EnvDrop, words[2:])
	case "set":
		name, value, ok := strings.Cut(words[2], "=")
		r.need(ok && len(words) == 3)
		r.add(api.EnvRule{Kind: api.EnvSet, Pattern: name, Value: value})
	default:
		r.need(false)
	}
}

func (r *reader) patterns(kind int, words []string) {
	for _, w := range words {
		r.add(api.EnvRule{Kind: kind, Pattern: w})
	}
}

func (r *reader) add(rule api.EnvRule) {
	r.need(env.Right(rule) && len(r.policy.Env) < api.MaxRules)
	r.policy.Env = append(r.policy.Env, rule)
}
