package yard_test

import (
	"fmt"

	"slipway/engine"
	"slipway/solve"
	"slipway/yard"
)

// The program of README.md.
func Example() {
	text := "service a\nrelease 1.0.0 level 0\nrelease 2.0.0 level 1\n" +
		"service b\nrelease 1.0.0 level 0\nneed a of ^1.0.0\nrelease 2.0.0 level 0\n"
	y, line, e := yard.New(yard.Setup{
		Text:     text,
		Versions: []int{0, 0},
		Config:   engine.Config{Limit: 2, Tries: 3, Base: 1, Cap: 60},
		Capacity: 1 << 16,
	})
	fmt.Println(line, e)
	y.Play(yard.Op{Kind: 1, N: 1000, Request: solve.Request{Modes: []int{0, 0}}})
	for len(y.Actions()) > 0 {
		y.Play(yard.Op{Kind: 2})
	}
	fmt.Println(y.Status())
	fmt.Println(y.Fleet().Places())
	// Output:
	// 0 0
	// 1 4
	// [(1+2i) (1+0i)]
}
