package ct

import (
	"math"
	"slices"

	"sabretache/api"
)

// Log keeps what can be seen from without, in order. A nil *Log keeps nothing.
type Log struct {
	events []api.Event
}

// NewLog answers a log with no events.
func NewLog() *Log {
	return &Log{}
}

// Load notes that the word at that place is read.
func (l *Log) Load(at int) {
	l.note(api.Load, at, 0)
}

// Store notes that the word at that place is written.
func (l *Log) Store(at int) {
	l.note(api.Store, at, 0)
}

// Take notes that n words from that place on are taken.
func (l *Log) Take(at, n int) {
	l.note(api.Take, at, count(n))
}

// Give notes that n words from that place on are given back.
func (l *Log) Give(at, n int) {
	l.note(api.Give, at, count(n))
}

// Release tells a word's value, and notes what was told. A nil *Log tells it all the same.
func (l *Log) Release(a Sec) uint32 {
	l.note(api.Release, 0, a.v)
	return a.v
}

// Len answers how many events there are.
func (l *Log) Len() int {
	if l == nil {
		return 0
	}
	return len(l.events)
}

// Events answers all events, in order.
func (l *Log) Events() []api.Event {
	if l == nil {
		return nil
	}
	return slices.Clone(l.events)
}

// Released answers the values that were told, in order.
func (l *Log) Released() []uint32 {
	if l == nil {
		return nil
	}
	var told []uint32
	for _, e := range l.events {
		if e.Kind == api.Release {
			told = append(told, e.Value)
		}
	}
	return told
}

// Blind answers all events, in order, without the values that were told.
func (l *Log) Blind() []api.Event {
	events := l.Events()
	for i := range events {
		if events[i].Kind == api.Release {
			events[i].Value = 0
		}
	}
	return events
}

func (l *Log) note(kind, at int, value uint32) {
	if l == nil {
		return
	}
	l.events = append(l.events, api.Event{Kind: kind, Index: at, Value: value})
}

// count brings n to 0 up to 2^32 - 1. It goes by way of int64, since an int may be too short for that bound.
func count(n int) uint32 {
	return uint32(min(max(int64(n), 0), math.MaxUint32))
}
