package journal

import (
	"slices"

	"puncheon/api"
	"puncheon/redo"
	"puncheon/tree"
)

// syncing is the one step that is a Sync and may be.
func syncing() api.Step {
	return api.Step{Sync: true}
}

// wrong tells whether s may not be.
func wrong(s api.Step) bool {
	if s.Sync {
		return s != syncing()
	}
	return tree.CheckOp(s.Op) != api.OK
}

// checkRow answers by which error steps may not be together.
func checkRow(l []api.Step) api.Errno {
	if len(l) > api.MaxSteps {
		return api.ErrLong
	}
	if slices.ContainsFunc(l, wrong) {
		return api.ErrStep
	}
	return api.OK
}

// stands tells whether something stands at p in t.
func stands(t api.Tree, p string) bool {
	_, is := tree.Get(t, p)
	return is
}

// dropping answers the redo behind which nothing is at p.
func dropping(p string) api.Redo {
	return api.Redo{Kind: api.ReDrop, Item: api.Item{Path: p}}
}

// surely answers steps, and behind them those that do operations, and a Sync.
func surely(steps []api.Step, free bool, ops ...api.Op) []api.Step {
	// Without room behind their end the steps that go ahead are copied, not added to.
	l := steps[:len(steps):len(steps)]
	for _, op := range ops {
		l = append(l, api.Step{Op: op, Free: free})
	}
	return append(l, syncing())
}

// written answers the steps of redos that have that body, and come to these operations.
//
// What needs room stands ahead of the mark's Sync: behind it there is no way back.
func written(body string, ops []api.Op) []api.Step {
	l := surely(nil, false, api.Op{Kind: api.OpWrite, Path: api.JournalPath, Data: body})
	l = surely(l, false, api.Op{Kind: api.OpAppend, Path: api.JournalPath, Data: Mark(body)})
	l = surely(l, true, ops...)
	return surely(l, true, api.Op{Kind: api.OpUnlink, Path: api.JournalPath})
}

// cleared answers steps behind which t stands, which may be, and behind them those by which staging and journal are gone.
func cleared(steps []api.Step, t api.Tree) []api.Step {
	// To drop what may be there has no error.
	_, ops, _ := redo.Apply(t, []api.Redo{dropping(api.StagePath), dropping(api.JournalPath)})
	return surely(steps, true, ops...)
}
