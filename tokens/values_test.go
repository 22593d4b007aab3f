package tokens_test

import (
	"slices"
	"strings"
	"testing"

	"tollbook/api"
	"tollbook/tokens"
)

// R3, R6: what a caller writes into an answer, and into the room behind its end,
// no later call shows; the same call answers the same.
func TestNothingChanges(t *testing.T) {
	for _, src := range someTexts() {
		list, spot := tokens.Cut(src)
		first := slices.Clone(list)
		other, _ := tokens.Cut(src)
		room := list[:cap(list)]
		for i := range room {
			room[i] = api.Token{Kind: -1, Text: "!", Line: -1, Col: -1}
		}
		if !slices.Equal(other, first) {
			t.Errorf("Cut(%q): two answers share memory", short(src))
		}
		part := ("a" + src + "a")[1 : 1+len(src)]
		if again, spotAgain := tokens.Cut(part); !slices.Equal(again, first) || spotAgain != spot {
			t.Errorf("Cut(%q) is another one the next time", short(src))
		}
	}
}

// R2: nothing stands beside an error.
func TestNothingBeside(t *testing.T) {
	for _, src := range []string{"!", "a !", book + "\n!", book + "\n7x", strings.Repeat(";", api.MaxSource) + "!", strings.Repeat(";", api.MaxSource-1) + "!"} {
		if list, spot := tokens.Cut(src); len(list) != 0 || spot.Err == api.OK {
			t.Errorf("Cut(%q) is %d tokens beside %v", short(src), len(list), spot)
		}
	}
}

// R8: calls may be made at one time.
func TestAtOneTime(t *testing.T) {
	for _, src := range []string{book, book + "\n!", ""} {
		want, wantSpot := tokens.Cut(src)
		done := make(chan bool)
		for range 8 {
			go func() {
				list, spot := tokens.Cut(src)
				done <- slices.Equal(list, want) && spot == wantSpot && tokens.Word("vat") && !tokens.Word("tax") && tokens.Code("EUR")
			}()
		}
		for range 8 {
			if !<-done {
				t.Errorf("Cut(%q): calls at one time disturb each other", short(src))
			}
		}
	}
}
