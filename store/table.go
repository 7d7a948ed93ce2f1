package store

import (
	"slices"
	"strings"
)

// table has a change for each key, in the keys' order: those that would lay it.
type table struct {
	laid   []Change
	weight int // of all of them
}

// weight is what a change counts for, in a batch and in a table.
func weight(c Change) int {
	return len(c.Key) + len(c.Value) + 16
}

// tableOf answers what the records' batches leave, one behind the other.
func tableOf(records [][]byte) table {
	var t table
	for _, r := range records {
		t.do(batchOf(r))
	}
	return t
}

// find answers where the key is, or would be.
func (t *table) find(key string) (at int, there bool) {
	return slices.BinarySearchFunc(t.laid, key, func(c Change, key string) int {
		return strings.Compare(c.Key, key)
	})
}

func (t *table) do(batch []Change) {
	for _, c := range batch {
		t.change(c)
	}
}

func (t *table) change(c Change) {
	at, there := t.find(c.Key)
	if there {
		t.weight -= weight(t.laid[at])
	}
	if !c.Gone {
		t.weight += weight(c)
	}
	// Cloned: a text that is handed in may be a piece of a far greater one.
	switch {
	case there && c.Gone:
		t.laid = slices.Delete(t.laid, at, at+1)
	case there:
		t.laid[at].Value = strings.Clone(c.Value)
	case !c.Gone:
		t.laid = slices.Insert(t.laid, at, Change{Key: strings.Clone(c.Key), Value: strings.Clone(c.Value)})
	}
}

// weightBehind answers what the table would weigh behind the batch.
func (t *table) weightBehind(batch []Change) int {
	sum := t.weight
	changed := map[string]int{}
	for _, c := range batch {
		old, again := changed[c.Key]
		if at, there := t.find(c.Key); there && !again {
			old = weight(t.laid[at])
		}
		changed[c.Key] = 0
		if !c.Gone {
			changed[c.Key] = weight(c)
		}
		sum += changed[c.Key] - old
	}
	return sum
}

// records answers records whose batches lay the table on an empty one.
func (t *table) records() [][]byte {
	var out [][]byte
	from, sum := 0, 0
	for at, c := range t.laid {
		if at-from == mostChanges || sum+weight(c) > mostWeight {
			out = append(out, recordOf(t.laid[from:at]))
			from, sum = at, 0
		}
		sum += weight(c)
	}
	if from < len(t.laid) {
		out = append(out, recordOf(t.laid[from:]))
	}
	return out
}
