// Package words numbers the words of the document that several layers share.
package words

// Kinds of a plan's steps.
const (
	Expand = iota + 1
	Deploy
	Contract
)

// Kinds of a saga's records.
const (
	Begin = iota + 1
	Intent
	Done
	Failed
	Abort
	Undone
	Mark
	End
)

// Phases of a saga.
const (
	Idle = iota
	Forward
	Back
	Final
	Ended
	RolledBack
)
