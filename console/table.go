package console

import "spandrel/api"

// part is what a part of a line behind its word is.
type part int

// Each is a number, but for the last two: these are one or more of what they are, up to the line's end.
const (
	nothing part = iota
	nodes
	client
	node
	trace
	at
	timeout
	message
	act
	keep
	tear
	kindsOfNumbers
	voters
	spans
)

// Kinds of lines that are no steps; a step's kind is api's.
const (
	toFound = -1 - iota
	toShow
	toList
	toAudit
)

// parts is what stands behind a word.
type parts [4]part

// row is a word, and what stands behind it.
type row struct {
	word    string
	kind    int
	command int // its kind, of a call
	behind  parts
}

// table is all words that a line may begin with.
var table = [...]row{
	{"cluster", toFound, 0, parts{nodes, voters}},
	{"open", api.SCall, api.COpen, parts{client, node}},
	{"ingest", api.SCall, api.CIngest, parts{client, node, spans}},
	{"expire", api.SCall, api.CExpire, parts{client, node, at}},
	{"retain", api.SCall, api.CRetain, parts{client, node, at}},
	{"look", api.SCall, api.CNone, parts{client, node, trace}},
	{"try", api.STry, 0, parts{client, node}},
	{"quit", api.SQuit, 0, parts{client}},
	{"tick", api.STick, 0, parts{node, timeout}},
	{"start", api.SStart, 0, parts{node, timeout}},
	{"take", api.STake, 0, parts{message}},
	{"lose", api.SLose, 0, parts{message}},
	{"double", api.SDouble, 0, parts{message}},
	{"crash", api.SCrash, 0, parts{node, keep, tear}},
	{"arm", api.SArm, 0, parts{node, act, keep, tear}},
	{"pack", api.SPack, 0, parts{node}},
	{"roster", api.SRoster, 0, parts{node, voters}},
	{"state", toShow, 0, parts{node}},
	{"log", toList, 0, parts{}},
	{"check", toAudit, 0, parts{}},
}
