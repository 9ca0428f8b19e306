package codegen_test

import (
	"testing"

	"horizon/api"
)

// 7.6: handlers whose fault, or whose throws, tell in which order they are computed.
func TestOrders(t *testing.T) {
	c := chance(760)
	for _, body := range []string{
		"r[roll(3)] = roll(9)",
		"r[5] = 1 / 0",
		"r[1 / 0] = 1 << -1",
		"v = r[roll(3)] - roll(3) * wait(9)",
		"v = min(roll(9), wait(9)) - max(wait(9), roll(9))",
		"send k(roll(9)) to roll(2) after 9 + wait(9)",
		"send k(1 / 0) to 1 << -1 after r[9]",
		"send k(1) to 1 << -1 after r[9]",
		"send k(1) to 99 after 1 - 9",
		"v = 1 / 0 + (1 << -1)",
		"v = (0 && 1 / 0) + (1 || 1 / 0) + (1 && 7) + (0 || 7) + (0 && 7) + (7 || 0)",
		"v = 1 && 1 / 0",
		"v = 0 || 1 / 0",
		"v = (x && me) - (x || me)",
		"fail 1 / 0",
		"fail roll(0)",
		"v = 1 r[0] = 2 v = roll(9) send k(1) to 0 after 9 fail 1",
		"v = 1 return v = 2",
		"let i = 0 while i < 5 { i = i + 1 if i == 2 { continue } if i == 4 { break } r[i % 3] = i } v = i",
		"let i = 0 while 1 { let j = 0 while 1 { j = j + 1 if j > i { break } v = v * 10 + j } i = i + 1 if i > 3 { return } }",
		"let i = 0 while i < 17 { i = i + 1 send k(i) to 0 after 9 }",
		"let i = 0 while i < 16 { i = i + 1 send k(i) to 0 after 9 }",
		"while 1 { }",
		"while 1 { continue }",
		"let a = 1 if a { let a = 2 a = a + 1 v = a } v = v * 10 + a",
		"if x { v = 1 } else if me { v = 2 } else { v = 3 }",
		"while x { let y = v v = y + 1 let z = y if z { break } }",
		"v = p[x % 2] + p[roll(9)]",
		"v = now r[0] = me r[1] = from r[2] = x",
		"v = -x + ~x * !x",
		"send j(x) to o after now",
	} {
		src := "look 2 end 9 kind j, k type T { var v var r[3] on k(x) { " + body + " } } place o : T place p[2] : T"
		tree, s := checked(t, src)
		p := compiled(t, src)[0]
		for range 20 {
			call := c.calling(p.Words, len(s.Kinds))
			e := checkRun(t, src, tree, s, s.Types[0], p, call)
			for fuel := range min(e.Used+2, 60) {
				call.Fuel = fuel
				less := checkRun(t, src, tree, s, s.Types[0], p, call)
				if (less.Code == api.FaultFuel) != (fuel < e.Used || e.Code == api.FaultFuel) {
					t.Fatalf("%s: fuel %d of %d: %d", body, fuel, e.Used, less.Code)
				}
			}
		}
	}
}

// 7.6: the handlers of the shop.
func TestShopRuns(t *testing.T) {
	c := chance(761)
	tree, s := checked(t, shop)
	p := compiled(t, shop)[0]
	seen := map[api.Errno]int{}
	for range 500 {
		call := c.calling(p.Words, len(s.Kinds))
		call.Look, call.Parts = uint64(c.below(8)), 4
		call.State.Words[1] = int64(c.below(2))
		e := checkRun(t, "the shop", tree, s, s.Types[0], p, call)
		seen[e.Code]++
	}
	if seen[api.OK] < 100 || seen[api.FaultDelay] < 20 || seen[api.FaultIndex] < 20 {
		t.Errorf("%v", seen)
	}
}
