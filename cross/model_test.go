package cross

import "strings"

// A second judge of what is Send, Sync. It reads types' texts, and takes each struct and enum to be both, till the rules say otherwise.

// facts are of each struct and enum the types that it has, and what it is known not to be.
type facts struct {
	parts            map[string][]string
	notSend, notSync map[string]bool
}

func factsOf(parts map[string][]string) facts {
	f := facts{parts, map[string]bool{}, map[string]bool{}}
	for changed := true; changed; {
		changed = false
		for name, rows := range parts {
			for _, row := range rows {
				if !f.isSend(row) && !f.notSend[name] {
					f.notSend[name], changed = true, true
				}
				if !f.isSync(row) && !f.notSync[name] {
					f.notSync[name], changed = true, true
				}
			}
		}
	}
	return f
}

// parted are a type's kind, or its name, and what it is of.
func parted(row string) (kind, of string) {
	row = strings.TrimSpace(row)
	if of, is := strings.CutPrefix(row, "&mut "); is {
		return "&mut", of
	}
	if of, is := strings.CutPrefix(row, "&"); is {
		return "&", of
	}
	kind, of, _ = strings.Cut(row, "<")
	return kind, strings.TrimSuffix(of, ">")
}

func (f facts) isSend(row string) bool {
	kind, of := parted(row)
	switch kind {
	case "Rc":
		return false
	case "&":
		return f.isSync(of)
	case "Arc":
		return f.isSend(of) && f.isSync(of)
	case "Box", "Cell", "Mutex", "Sender", "Receiver", "&mut":
		return f.isSend(of)
	}
	return !f.notSend[kind]
}

func (f facts) isSync(row string) bool {
	kind, of := parted(row)
	switch kind {
	case "Rc", "Cell":
		return false
	case "&", "&mut", "Box":
		return f.isSync(of)
	case "Arc":
		return f.isSend(of) && f.isSync(of)
	case "Mutex", "Sender", "Receiver":
		return f.isSend(of)
	}
	return !f.notSync[kind]
}
