package cache_test

import (
	"errors"
	"fmt"
	"math"
	"math/rand"
	"runtime"
	"slices"
	"strconv"
	"testing"
	"weak"

	"cartulary/api"
	"cartulary/cache"
)

// tableErrors are the errors of the document's table, in its order.
func tableErrors() []error {
	return []error{
		api.ErrNil, api.ErrArg, api.ErrInput, api.ErrLimit, api.ErrRange, api.ErrGone, api.ErrUnavailable, api.ErrDead,
		api.ErrCorrupt, api.ErrProof, api.ErrSpent, api.ErrSigned, api.ErrFork, api.ErrOld, api.ErrStopped, api.ErrScript,
	}
}

// checkOnly: got is that error of the table, no other one, and tells no place; nil, if none is wanted.
func checkOnly(t *testing.T, what string, got, want error) {
	t.Helper()
	if want == nil && got != nil {
		t.Fatalf("%s: %v", what, got)
	}
	for _, e := range tableErrors() {
		if errors.Is(got, e) != (e == want) {
			t.Fatalf("%s: got %v, want %v: errors.Is says %v of %v", what, got, want, errors.Is(got, e), e)
		}
	}
	var f *api.Fault
	if errors.As(got, &f) && f.At != 0 {
		t.Fatalf("%s tells the place %d", what, f.At)
	}
}

// plain is a cache by the chapter's words: two lists side by side, the newest first, gone through from their beginning on.
type plain[K, V comparable] struct {
	capacity int
	keys     []K
	values   []V
}

func (p *plain[K, V]) take(at int) (K, V) {
	key, value := p.keys[at], p.values[at]
	p.keys, p.values = slices.Delete(p.keys, at, at+1), slices.Delete(p.values, at, at+1)
	return key, value
}

func (p *plain[K, V]) lead(key K, value V) {
	p.keys, p.values = slices.Insert(p.keys, 0, key), slices.Insert(p.values, 0, value)
}

func (p *plain[K, V]) get(key K) (value V, ok bool) {
	at := slices.Index(p.keys, key)
	if at < 0 {
		return value, false
	}
	kept, value := p.take(at)
	p.lead(kept, value)
	return value, true
}

func (p *plain[K, V]) put(key K, value V) (gone K, was bool) {
	if at := slices.Index(p.keys, key); at >= 0 {
		kept, _ := p.take(at)
		p.lead(kept, value)
		return gone, false
	}
	if len(p.keys) < p.capacity {
		p.lead(key, value)
		return gone, false
	}
	if p.capacity == 0 {
		return key, true
	}
	gone, _ = p.take(len(p.keys) - 1)
	p.lead(key, value)
	return gone, true
}

func (p *plain[K, V]) drop(key K) bool {
	at := slices.Index(p.keys, key)
	if at >= 0 {
		p.take(at)
	}
	return at >= 0
}

// both is a cache and what it should be: each call goes to both, and Len and Keys are asked behind it.
type both[K, V comparable] struct {
	t     *testing.T
	cache *cache.Cache[K, V]
	plain *plain[K, V]
}

func made[K comparable, V any](t *testing.T, capacity int) *cache.Cache[K, V] {
	t.Helper()
	c, err := cache.New[K, V](capacity)
	checkOnly(t, fmt.Sprintf("New(%d)", capacity), err, nil)
	if c == nil {
		t.Fatalf("New(%d) makes no cache", capacity)
	}
	return c
}

func twin[K, V comparable](t *testing.T, capacity int) *both[K, V] {
	t.Helper()
	b := &both[K, V]{t: t, cache: made[K, V](t, capacity), plain: &plain[K, V]{capacity: capacity}}
	b.check("New")
	return b
}

func (b *both[K, V]) check(what string) {
	b.t.Helper()
	if n := b.cache.Len(); n != len(b.plain.keys) || n > b.plain.capacity {
		b.t.Fatalf("capacity %d: %s: Len() = %d, want %d", b.plain.capacity, what, n, len(b.plain.keys))
	}
	if keys := b.cache.Keys(); !slices.Equal(keys, b.plain.keys) {
		b.t.Fatalf("capacity %d: %s: Keys() = %v, want %v", b.plain.capacity, what, keys, b.plain.keys)
	}
}

func (b *both[K, V]) get(key K) {
	b.t.Helper()
	want, wantOK := b.plain.get(key)
	if v, ok := b.cache.Get(key); v != want || ok != wantOK {
		b.t.Fatalf("capacity %d: Get(%v) = %v, %v, want %v, %v", b.plain.capacity, key, v, ok, want, wantOK)
	}
	b.check("Get")
}

func (b *both[K, V]) put(key K, value V) {
	b.t.Helper()
	want, wantWas := b.plain.put(key, value)
	if gone, was := b.cache.Put(key, value); gone != want || was != wantWas {
		b.t.Fatalf("capacity %d: Put(%v=%v) = %v, %v, want %v, %v", b.plain.capacity, key, value, gone, was, want, wantWas)
	}
	b.check("Put")
}

func (b *both[K, V]) drop(key K) {
	b.t.Helper()
	want := b.plain.drop(key)
	if ok := b.cache.Drop(key); ok != want {
		b.t.Fatalf("capacity %d: Drop(%v) = %v, want %v", b.plain.capacity, key, ok, want)
	}
	b.check("Drop")
}

// values: each thing that should be there is got, from the oldest on, so that the order behind it is the one ahead of it.
func (b *both[K, V]) values() {
	b.t.Helper()
	keys := slices.Clone(b.plain.keys)
	for _, key := range slices.Backward(keys) {
		b.get(key)
	}
	if !slices.Equal(b.plain.keys, keys) {
		b.t.Fatalf("the plain list is %v, was %v", b.plain.keys, keys)
	}
}

// The checks of one call each, with the answer written out.

func checkGet[K, V comparable](t *testing.T, c *cache.Cache[K, V], key K, want V) {
	t.Helper()
	if v, ok := c.Get(key); v != want || !ok {
		t.Fatalf("Get(%v) = %v, %v, want %v, true", key, v, ok, want)
	}
}

func checkNoGet[K, V comparable](t *testing.T, c *cache.Cache[K, V], key K) {
	t.Helper()
	var zero V
	if v, ok := c.Get(key); v != zero || ok {
		t.Fatalf("Get(%v) = %v, %v, want %v, false", key, v, ok, zero)
	}
}

func checkPut[K comparable, V any](t *testing.T, c *cache.Cache[K, V], key K, value V) {
	t.Helper()
	var zero K
	if gone, was := c.Put(key, value); gone != zero || was {
		t.Fatalf("Put(%v=%v) = %v, %v, want %v, false", key, value, gone, was, zero)
	}
}

func checkPutGone[K comparable, V any](t *testing.T, c *cache.Cache[K, V], key K, value V, want K) {
	t.Helper()
	if gone, was := c.Put(key, value); gone != want || !was {
		t.Fatalf("Put(%v=%v) = %v, %v, want %v, true", key, value, gone, was, want)
	}
}

func checkDrop[K comparable, V any](t *testing.T, c *cache.Cache[K, V], key K, want bool) {
	t.Helper()
	if got := c.Drop(key); got != want {
		t.Fatalf("Drop(%v) = %v, want %v", key, got, want)
	}
}

func checkKeys[K comparable, V any](t *testing.T, c *cache.Cache[K, V], want ...K) {
	t.Helper()
	if n := c.Len(); n != len(want) {
		t.Fatalf("Len() = %d, want %d", n, len(want))
	}
	if got := c.Keys(); !slices.Equal(got, want) {
		t.Fatalf("Keys() = %v, want %v", got, want)
	}
}

// filled: of capacity n, with the keys 1 to n put in that order; the value of k is 10 k.
func filled(t *testing.T, n int) *both[int, int] {
	t.Helper()
	b := twin[int, int](t, n)
	for k := 1; k <= n; k++ {
		b.put(k, 10*k)
	}
	return b
}

// The chapter's examples.

func TestExamplesOfTwo(t *testing.T) {
	c := made[string, int](t, 2)
	checkPut(t, c, "a", 1)
	checkPut(t, c, "b", 2)
	checkGet(t, c, "a", 1)
	checkPutGone(t, c, "c", 3, "b")

	checkKeys(t, c, "c", "a")
	checkNoGet(t, c, "b")
	checkKeys(t, c, "c", "a")

	checkPut(t, c, "a", 4)
	checkKeys(t, c, "a", "c")
	checkGet(t, c, "a", 4)

	checkDrop(t, c, "c", true)
	checkDrop(t, c, "c", false)
	checkPut(t, c, "d", 5)
	checkKeys(t, c, "d", "a")
}

func TestExampleOfCapacity0(t *testing.T) {
	c := made[string, int](t, 0)
	checkPutGone(t, c, "a", 1, "a")
	checkNoGet(t, c, "a")
	checkKeys(t, c)
}

func TestExampleOfCapacity1(t *testing.T) {
	c := made[string, int](t, 1)
	checkPut(t, c, "a", 1)
	checkPut(t, c, "a", 2)
	checkPutGone(t, c, "b", 3, "a")
}

func TestExamplesOfNew(t *testing.T) {
	checkNoNew(t, -1)
	checkNoNew(t, 1025)
	made[string, int](t, 1024)
}

// P13.1

func checkNoNew(t *testing.T, capacity int) {
	t.Helper()
	c, err := cache.New[string, int](capacity)
	checkOnly(t, fmt.Sprintf("New(%d)", capacity), err, api.ErrArg)
	if c != nil {
		t.Fatalf("New(%d) makes a cache beside an error", capacity)
	}
	d, err := cache.New[api.Tile, []api.Hash](capacity)
	checkOnly(t, fmt.Sprintf("New(%d)", capacity), err, api.ErrArg)
	if d != nil {
		t.Fatalf("New(%d) makes a cache beside an error", capacity)
	}
}

func TestCapacitiesThatMayNotBe(t *testing.T) {
	for _, n := range []int{
		-1, -2, -1024, -1025, api.MaxCache + 1, api.MaxCache + 2, 2 * api.MaxCache, 1 << 16, 1 << 20, 1 << 31, 1 << 32, 1<<32 + 1, 1<<32 + 1024,
		-1 << 31, -1 << 32, 1<<32 - 1, math.MaxInt - 1, math.MaxInt, math.MinInt + 1, math.MinInt, math.MinInt + 1024,
	} {
		checkNoNew(t, n)
	}
}

func TestCapacitiesThatMayBe(t *testing.T) {
	for n := range api.MaxCache + 1 {
		c := made[string, int](t, n)
		checkKeys(t, c)
		checkNoGet(t, c, "")
		checkNoGet(t, c, "a")
		checkDrop(t, c, "", false)
		checkKeys(t, c)
	}
}

// TestEachCapacityIsKept: so many things there are, and the next one sends the oldest away.
func TestEachCapacityIsKept(t *testing.T) {
	for _, n := range []int{1, 2, 3, 4, 5, 7, 8, 9, 63, 64, 65, 255, 256, 257, api.MaxCache - 1, api.MaxCache} {
		c := made[int, int](t, n)
		for k := range n {
			checkPut(t, c, k, -k)
			if c.Len() != k+1 {
				t.Fatalf("capacity %d: Len() = %d behind %d things", n, c.Len(), k+1)
			}
		}
		for k := n; k < 3*n; k++ {
			checkPutGone(t, c, k, -k, k-n)
			if c.Len() != n {
				t.Fatalf("capacity %d: Len() = %d of a full cache", n, c.Len())
			}
		}
		want := make([]int, n)
		for i := range want {
			want[i] = 3*n - 1 - i
		}
		checkKeys(t, c, want...)
		for _, k := range want {
			checkGet(t, c, k, -k)
		}
		slices.Reverse(want)
		checkKeys(t, c, want...)
	}
}

// P13.2

func TestGetMakesTheNewest(t *testing.T) {
	c := made[string, int](t, 4)
	for i, k := range []string{"a", "b", "c", "d"} {
		checkPut(t, c, k, i+1)
	}
	checkKeys(t, c, "d", "c", "b", "a")
	checkGet(t, c, "a", 1) // the oldest
	checkKeys(t, c, "a", "d", "c", "b")
	checkGet(t, c, "c", 3) // one between
	checkKeys(t, c, "c", "a", "d", "b")
	checkGet(t, c, "c", 3) // the newest
	checkKeys(t, c, "c", "a", "d", "b")
	checkPutGone(t, c, "e", 5, "b")
	checkPutGone(t, c, "f", 6, "d")
	checkKeys(t, c, "f", "e", "c", "a")
}

func TestGetOfNoThingKeepsTheOrder(t *testing.T) {
	c := made[string, int](t, 3)
	checkNoGet(t, c, "a")
	checkKeys(t, c)
	checkPut(t, c, "a", 1)
	checkPut(t, c, "b", 2)
	for _, k := range []string{"c", "", "A", "ab", "a\x00"} {
		checkNoGet(t, c, k)
		checkKeys(t, c, "b", "a")
	}
	checkPut(t, c, "c", 3) // what was asked for and is not there took no room
	checkPutGone(t, c, "d", 4, "a")
	checkNoGet(t, c, "a")
	checkKeys(t, c, "d", "c", "b")
}

func TestGetOfZeroThings(t *testing.T) {
	c := made[string, int](t, 2)
	checkPut(t, c, "", 0)
	checkGet(t, c, "", 0)
	checkKeys(t, c, "")
	checkPut(t, c, "a", 0)
	checkPutGone(t, c, "b", 0, "")
	checkNoGet(t, c, "")
	checkGet(t, c, "a", 0)
}

func TestGetOfEachPlace(t *testing.T) {
	for n := range 9 {
		for k := range n + 2 { // 0 and n + 1 are not there
			b := filled(t, n)
			b.get(k)
			b.get(k)
			b.values()
			for more := range n + 2 {
				b.put(100+more, more)
			}
			b.values()
		}
	}
}

// P13.3

func TestPutOfAKeyThatIsThere(t *testing.T) {
	c := made[string, int](t, 3)
	for i, k := range []string{"a", "b", "c"} {
		checkPut(t, c, k, i+1)
	}
	checkPut(t, c, "a", 7) // full, and nothing goes
	checkKeys(t, c, "a", "c", "b")
	checkPut(t, c, "c", 8)
	checkKeys(t, c, "c", "a", "b")
	checkPut(t, c, "c", 9)
	checkKeys(t, c, "c", "a", "b")
	checkPut(t, c, "c", 9)
	checkKeys(t, c, "c", "a", "b")
	checkPutGone(t, c, "d", 4, "b")
	checkGet(t, c, "a", 7)
	checkGet(t, c, "c", 9)
	checkGet(t, c, "d", 4)
	checkPut(t, c, "d", 0)
	checkGet(t, c, "d", 0)
}

func TestPutOfEachPlace(t *testing.T) {
	for n := range 9 {
		for k := range n + 2 {
			b := filled(t, n)
			b.put(k, 77)
			b.put(k, 78)
			b.values()
			for more := range n + 2 {
				b.put(100+more, more)
			}
			b.values()
		}
	}
}

func TestPutWhereThereIsRoom(t *testing.T) {
	c := made[string, int](t, 3)
	checkPut(t, c, "a", 1)
	checkKeys(t, c, "a")
	checkPut(t, c, "b", 2)
	checkKeys(t, c, "b", "a")
	checkPut(t, c, "c", 3)
	checkKeys(t, c, "c", "b", "a")
}

func TestPutWhereThereIsNoRoom(t *testing.T) {
	c := made[string, int](t, 3)
	for i, k := range []string{"a", "b", "c"} {
		checkPut(t, c, k, i+1)
	}
	checkPutGone(t, c, "d", 4, "a")
	checkKeys(t, c, "d", "c", "b")
	checkNoGet(t, c, "a")
	checkPutGone(t, c, "a", 5, "b") // what went may come again
	checkKeys(t, c, "a", "d", "c")
	checkGet(t, c, "a", 5)
	checkGet(t, c, "c", 3)
	checkPutGone(t, c, "b", 6, "d")
	checkKeys(t, c, "b", "c", "a")
}

func TestCapacity0(t *testing.T) {
	b := twin[string, int](t, 0)
	for _, k := range []string{"a", "b", "a", "", "a"} {
		checkPutGone(t, b.cache, k, 1, k)
		b.put(k, 2)
		b.get(k)
		b.drop(k)
		b.drop(k)
	}
	checkKeys(t, b.cache)
}

func TestCapacity1(t *testing.T) {
	c := made[string, int](t, 1)
	checkPut(t, c, "a", 1)
	checkPut(t, c, "a", 2)
	checkKeys(t, c, "a")
	checkGet(t, c, "a", 2)
	checkPutGone(t, c, "b", 3, "a")
	checkKeys(t, c, "b")
	checkNoGet(t, c, "a")
	checkPutGone(t, c, "a", 4, "b")
	checkDrop(t, c, "b", false)
	checkDrop(t, c, "a", true)
	checkKeys(t, c)
	checkPut(t, c, "c", 5)
	checkKeys(t, c, "c")
	checkGet(t, c, "c", 5)
}

// P13.4

func TestDropOfTheNewest(t *testing.T) {
	c := filled(t, 4).cache
	checkDrop(t, c, 4, true)
	checkKeys(t, c, 3, 2, 1)
	checkNoGet(t, c, 4)
	checkPut(t, c, 5, 50)
	checkKeys(t, c, 5, 3, 2, 1)
	checkPutGone(t, c, 6, 60, 1)
	checkPutGone(t, c, 4, 41, 2)
	checkKeys(t, c, 4, 6, 5, 3)
	checkGet(t, c, 4, 41)
}

func TestDropOfTheOldest(t *testing.T) {
	c := filled(t, 4).cache
	checkDrop(t, c, 1, true)
	checkKeys(t, c, 4, 3, 2)
	checkNoGet(t, c, 1)
	checkPut(t, c, 5, 50)
	checkKeys(t, c, 5, 4, 3, 2)
	checkPutGone(t, c, 6, 60, 2)
	checkPutGone(t, c, 1, 11, 3)
	checkKeys(t, c, 1, 6, 5, 4)
	checkGet(t, c, 1, 11)
}

func TestDropOfOneBetween(t *testing.T) {
	c := filled(t, 4).cache
	checkDrop(t, c, 2, true)
	checkKeys(t, c, 4, 3, 1)
	checkDrop(t, c, 3, true)
	checkKeys(t, c, 4, 1)
	checkGet(t, c, 1, 10)
	checkKeys(t, c, 1, 4)
	checkGet(t, c, 4, 40)
	checkPut(t, c, 5, 50)
	checkPut(t, c, 6, 60)
	checkKeys(t, c, 6, 5, 4, 1)
	checkPutGone(t, c, 7, 70, 1)
	checkPutGone(t, c, 8, 80, 4)
}

func TestDropOfNoThing(t *testing.T) {
	c := made[int, int](t, 2)
	checkDrop(t, c, 0, false)
	checkPut(t, c, 1, 10)
	checkDrop(t, c, 0, false)
	checkDrop(t, c, 2, false)
	checkKeys(t, c, 1)
	checkPut(t, c, 2, 20)
	checkPutGone(t, c, 3, 30, 1)
	checkDrop(t, c, 1, false) // it went by itself
	checkKeys(t, c, 3, 2)
}

func TestDropOfOneKeyTwice(t *testing.T) {
	c := filled(t, 3).cache
	checkDrop(t, c, 2, true)
	checkDrop(t, c, 2, false)
	checkKeys(t, c, 3, 1)
	checkPut(t, c, 2, 21)
	checkKeys(t, c, 2, 3, 1)
	checkDrop(t, c, 2, true)
	checkDrop(t, c, 2, false)
	checkKeys(t, c, 3, 1)
}

func TestDropOfTheLastThing(t *testing.T) {
	c := made[int, int](t, 2)
	for k := range 10 {
		checkPut(t, c, k, k)
		checkKeys(t, c, k)
		checkDrop(t, c, k, true)
		checkKeys(t, c)
		checkNoGet(t, c, k)
		checkDrop(t, c, k, false)
	}
	checkPut(t, c, 1, 1)
	checkPut(t, c, 2, 2)
	checkPutGone(t, c, 3, 3, 1)
}

// eachOrder: the orders of 1 to n.
func eachOrder(n int, tell func([]int)) {
	var order []int
	var more func()
	more = func() {
		if len(order) == n {
			tell(order)
			return
		}
		for k := 1; k <= n; k++ {
			if !slices.Contains(order, k) {
				order = append(order, k)
				more()
				order = order[:len(order)-1]
			}
		}
	}
	more()
}

// TestDropInEachOrder: some things are dropped in each order, and what is put behind it goes on as it should.
func TestDropInEachOrder(t *testing.T) {
	for n := range 6 {
		eachOrder(n, func(order []int) {
			for some := range n + 1 {
				b := filled(t, n)
				for _, k := range order[:some] {
					b.drop(k)
				}
				b.values()
				for more := range n + 2 {
					b.put(100+more, more)
				}
				b.values()
			}
		})
	}
}

func TestGetInEachOrder(t *testing.T) {
	for n := range 6 {
		eachOrder(n, func(order []int) {
			b := filled(t, n)
			for _, k := range order {
				b.get(k)
			}
			want := slices.Clone(order)
			slices.Reverse(want)
			checkKeys(t, b.cache, want...)
			for i, k := range order { // they go in the order in which they were got
				checkPutGone(t, b.cache, 100+i, i, k)
			}
		})
	}
}

func TestFullAndEmptyByTurns(t *testing.T) {
	for _, n := range []int{1, 2, 3, 17, api.MaxCache} {
		c := made[int, int](t, n)
		for round := range 4 {
			for k := range n {
				checkPut(t, c, k, k+round)
			}
			checkPutGone(t, c, n, round, 0)
			checkDrop(t, c, 0, false)
			for k := n; k > 0; k-- {
				if round%2 == 0 {
					checkDrop(t, c, k, true)
				} else {
					checkDrop(t, c, n+1-k, true)
				}
				if c.Len() != k-1 {
					t.Fatalf("Len() = %d, want %d", c.Len(), k-1)
				}
			}
			checkKeys(t, c)
		}
	}
}

func TestLenAndKeysChangeNothing(t *testing.T) {
	c := filled(t, 3).cache
	for range 5 {
		checkKeys(t, c, 3, 2, 1)
	}
	checkPutGone(t, c, 4, 40, 1)
}

// P13.5

func checkNotThere[K, V comparable](t *testing.T, c *cache.Cache[K, V], key K, value V) {
	t.Helper()
	for range 2 {
		checkKeys(t, c)
		checkNoGet(t, c, key)
		checkDrop(t, c, key, false)
		checkPut(t, c, key, value)
		checkKeys(t, c)
		checkNoGet(t, c, key)
		checkDrop(t, c, key, false)
	}
}

func checkNotThereOf[K, V comparable](t *testing.T, key K, value V) {
	t.Helper()
	checkNotThere(t, nil, key, value)
	checkNotThere(t, new(cache.Cache[K, V]), key, value)
	checkNotThere(t, &cache.Cache[K, V]{}, key, value)
	var zero cache.Cache[K, V]
	checkNotThere(t, &zero, key, value)
	if c, err := cache.New[K, V](-1); err != nil {
		checkNotThere(t, c, key, value)
	}
}

func TestCachesThatAreNotThere(t *testing.T) {
	checkNotThereOf(t, "a", 1)
	checkNotThereOf(t, "", 0)
	checkNotThereOf(t, 7, "x")
	checkNotThereOf(t, api.Coord{Level: 3, Index: 4}, api.Hash{1})
	checkNotThereOf(t, api.Hash{1}, new(int))
	checkNotThereOf(t, new(int), [2]string{"a", "b"})
	checkNotThereOf(t, struct{}{}, struct{}{})
	checkNotThereOf[any, any](t, "a", 1)
}

// Keys and values of other kinds.

// checkKind: three keys and three values in short scripts.
func checkKind[K, V comparable](t *testing.T, keys [3]K, values [3]V) {
	t.Helper()
	for capacity := range 4 {
		b := twin[K, V](t, capacity)
		for round := range 3 {
			for i, k := range keys {
				b.put(k, values[(i+round)%3])
				b.get(keys[(i+round)%3])
			}
			b.drop(keys[round])
			b.drop(keys[round])
			b.values()
		}
		for i := range keys {
			b.put(keys[2-i], values[i])
		}
		b.values()
	}
}

type word string

type deep struct {
	name  word
	place [2]api.Coord
	more  any
}

func TestKinds(t *testing.T) {
	checkKind(t, [3]int{0, -1, math.MinInt}, [3]string{"", "x", "y"})
	checkKind(t, [3]uint8{0, 1, 255}, [3]uint64{0, 1, math.MaxUint64})
	checkKind(t, [3]int64{math.MaxInt64, 0, math.MinInt64}, [3]bool{true, false, true})
	checkKind(t, [3]rune{'a', 0, 0x10ffff}, [3]float64{0, 1.5, math.Inf(1)})
	checkKind(t, [3]float64{0, math.Inf(-1), 0.5}, [3]complex128{0, 1, 1i})
	checkKind(t, [3]string{"", "\x00", "a\xff"}, [3]int{0, 1, 2})
	checkKind(t, [3]word{"a", "b", ""}, [3]word{"", "c", "d"})
	checkKind(t, [3]api.Hash{{}, {1}, {31: 1}}, [3]api.Hash{{2}, {}, {3}})
	checkKind(t, [3][2]string{{"a", ""}, {"", "a"}, {}}, [3][1]int{{1}, {0}, {2}})
	checkKind(t, [3]api.Coord{{}, {Level: 1}, {Index: 1}}, [3]api.Node{{}, {Hash: api.Hash{1}}, {Coord: api.Coord{Level: 2}}})
	checkKind(t, [3]api.Tile{{Width: 1}, {Level: 1, Width: 1}, {Width: 256}}, [3]string{"a", "b", "c"})
	checkKind(t, [3]*int{nil, new(int), new(int)}, [3]*string{nil, new(string), new(string)})
	checkKind(t, [3]any{nil, 1, "1"}, [3]any{"x", nil, 2})
	checkKind(t, [3]any{1, int64(1), uint(1)}, [3]any{1, int64(1), uint(1)}) // alike, but of unlike types
	checkKind(t, [3]error{nil, api.ErrArg, api.ErrNil}, [3]error{api.ErrArg, nil, api.ErrNil})
	checkKind(t, [3]chan int{nil, make(chan int), make(chan int)}, [3]chan int{make(chan int), nil, nil})
	checkKind(t, [3]deep{{}, {name: "a"}, {more: api.Hash{}}}, [3]deep{{place: [2]api.Coord{{Level: 1}}}, {}, {more: 1}})
}

func TestKindsWithTwoKeysAndOne(t *testing.T) {
	b := twin[bool, int](t, 1)
	b.put(true, 1)
	b.put(false, 2)
	b.put(false, 3)
	b.get(true)
	b.drop(false)
	b.drop(false)
	one := twin[struct{}, struct{}](t, 1)
	one.get(struct{}{})
	one.put(struct{}{}, struct{}{})
	one.put(struct{}{}, struct{}{})
	one.get(struct{}{})
	one.drop(struct{}{})
	one.drop(struct{}{})
	none := twin[[0]int, int](t, 1024)
	none.put([0]int{}, 5)
	none.put([0]int{}, 6)
	none.get([0]int{})
}

// TestPointersAreKeysByThemselves: not by what they point to.
func TestPointersAreKeysByThemselves(t *testing.T) {
	p, q := &api.Coord{Level: 1}, &api.Coord{Level: 1}
	c := made[*api.Coord, int](t, 2)
	checkPut(t, c, p, 1)
	checkPut(t, c, q, 2)
	p.Level = 9
	checkGet(t, c, p, 1)
	checkGet(t, c, q, 2)
	checkKeys(t, c, q, p)
}

// TestKeysThatAreTheSame: one key is another one by ==; the thing that is there keeps its own.
func TestKeysThatAreTheSame(t *testing.T) {
	minus := math.Copysign(0, -1)
	c := made[float64, int](t, 2)
	checkPut(t, c, 0, 1)
	checkGet(t, c, minus, 1)
	checkPut(t, c, minus, 2)
	checkGet(t, c, 0, 2)
	checkKeys(t, c, 0)
	if math.Signbit(c.Keys()[0]) {
		t.Fatal("a Put that turns a value turns the key")
	}
	checkDrop(t, c, minus, true)
	checkKeys(t, c)

	texts := made[string, int](t, 2)
	checkPut(t, texts, "12", 1)
	checkGet(t, texts, strconv.Itoa(10+len(texts.Keys())+1), 1) // other memory, the same bytes
}

// TestThingsAreHandedOnAsTheyAre: what the caller chose is not copied.
func TestThingsAreHandedOnAsTheyAre(t *testing.T) {
	list := []int{1, 2, 3}
	c := made[string, []int](t, 2)
	checkPut(t, c, "a", list)
	got, ok := c.Get("a")
	if !ok || &got[0] != &list[0] || len(got) != 3 || cap(got) != cap(list) {
		t.Fatal("a list is not handed on as it is")
	}
	checkPut(t, c, "b", nil)
	if got, ok := c.Get("b"); !ok || got != nil {
		t.Fatalf("Get(b) = %v, %v", got, ok)
	}
	if got, ok := c.Get("c"); ok || got != nil {
		t.Fatalf("Get(c) = %v, %v", got, ok)
	}

	counts := map[string]int{"x": 1}
	maps := made[int, map[string]int](t, 1)
	checkPut(t, maps, 1, counts)
	counts["x"] = 2
	if got, ok := maps.Get(1); !ok || got["x"] != 2 {
		t.Fatal("a map is not handed on as it is")
	}

	calls := made[int, func() int](t, 1)
	calls.Put(1, func() int { return 42 })
	if f, ok := calls.Get(1); !ok || f() != 42 {
		t.Fatal("a function is not handed on as it is")
	}
	if f, ok := calls.Get(2); ok || f != nil {
		t.Fatal("a function where there is none")
	}
}

// TestCachesAsValues: a cache may lie in a cache.
func TestCachesAsValues(t *testing.T) {
	inner := made[int, int](t, 1)
	outer := made[*cache.Cache[int, int], *cache.Cache[int, int]](t, 1)
	checkPut(t, outer, inner, inner)
	checkGet(t, outer, inner, inner)
	checkPut(t, inner, 1, 2)
	got, _ := outer.Get(inner)
	checkGet(t, got, 1, 2)
	checkPutGone(t, outer, nil, nil, inner)
	checkGet(t, inner, 1, 2)
}

// R5: caches side by side.

func TestCachesShareNothing(t *testing.T) {
	one, two := made[string, int](t, 2), made[string, int](t, 2)
	checkPut(t, one, "a", 1)
	checkKeys(t, two)
	checkNoGet(t, two, "a")
	checkDrop(t, two, "a", false)
	checkPut(t, two, "a", 2)
	checkPut(t, two, "b", 3)
	checkPutGone(t, two, "c", 4, "a")
	checkKeys(t, one, "a")
	checkGet(t, one, "a", 1)
	checkDrop(t, one, "a", true)
	checkKeys(t, two, "c", "b")
}

func TestCachesOfUnlikeKindsSideBySide(t *testing.T) {
	random := rand.New(rand.NewSource(1))
	numbers, texts := twin[int, int](t, 3), twin[string, int](t, 4)
	trees, tiny := twin[api.Coord, string](t, 5), twin[uint8, string](t, 1)
	for range 20000 {
		k, v := random.Intn(8), random.Intn(100)
		name := strconv.Itoa(k)
		tree := api.Coord{Level: uint8(k & 1), Index: uint64(k >> 1)}
		draw(random, numbers, k, v)
		draw(random, texts, name, v)
		draw(random, trees, tree, name)
		draw(random, tiny, uint8(k), name)
	}
	numbers.values()
	texts.values()
	trees.values()
	tiny.values()
}

// Scripts.

// draw: one call, drawn by a number.
func draw[K, V comparable](random *rand.Rand, b *both[K, V], key K, value V) {
	b.t.Helper()
	switch n := random.Intn(10); {
	case n < 4:
		b.get(key)
	case n < 8:
		b.put(key, value)
	default:
		b.drop(key)
	}
}

// play: a call by its number; the value of a Put is one that no other call of the script has.
func play(b *both[int, int], call, step int) {
	b.t.Helper()
	key := call / 3
	switch call % 3 {
	case 0:
		b.get(key)
	case 1:
		b.put(key, 1+step)
	default:
		b.drop(key)
	}
}

// TestAllShortScripts: each script of so many calls.
func TestAllShortScripts(t *testing.T) {
	const keys, calls = 4, 4
	for capacity := range 4 {
		all := 1
		for range calls {
			all *= 3 * keys
		}
		for script := range all {
			b := twin[int, int](t, capacity)
			for k := range capacity { // full, so that short scripts reach what a full cache does
				b.put(k, 100+k)
			}
			rest := script
			for step := range calls {
				play(b, rest%(3*keys), step)
				rest /= 3 * keys
			}
			b.values()
		}
	}
}

func TestAllShortScriptsFromEmpty(t *testing.T) {
	const keys, calls = 3, 5
	for capacity := range 3 {
		all := 1
		for range calls {
			all *= 3 * keys
		}
		for script := range all {
			b := twin[int, int](t, capacity)
			rest := script
			for step := range calls {
				play(b, rest%(3*keys), step)
				rest /= 3 * keys
			}
			b.values()
		}
	}
}

func TestLongScripts(t *testing.T) {
	random := rand.New(rand.NewSource(13))
	for _, capacity := range []int{0, 1, 2, 3, 4, 5, 8, 16, 31, 64} {
		for _, keys := range []int{1, capacity/2 + 1, capacity + 1, 2*capacity + 2, 10*capacity + 3} {
			b := twin[int, int](t, capacity)
			for step := range 4000 {
				draw(random, b, random.Intn(keys), step)
			}
			b.values()
		}
	}
}

func TestLongScriptsOfTheGreatestCache(t *testing.T) {
	random := rand.New(rand.NewSource(14))
	for _, capacity := range []int{api.MaxCache - 1, api.MaxCache} {
		b := twin[string, int](t, capacity)
		for step := range 12000 {
			draw(random, b, strconv.Itoa(random.Intn(1500)), step)
		}
		for k := range 1500 {
			b.put(strconv.Itoa(k), k)
		}
		b.values()
	}
}

func TestScriptsAreAnsweredTheSameAgain(t *testing.T) {
	run := func() string {
		random := rand.New(rand.NewSource(15))
		c := made[int, int](t, 7)
		told := ""
		for step := range 2000 {
			k := random.Intn(12)
			gone, was := c.Put(k, step)
			v, ok := c.Get(random.Intn(12))
			told += fmt.Sprint(gone, was, v, ok, c.Drop(random.Intn(12)), c.Len(), c.Keys())
		}
		return told
	}
	first := run()
	for range 5 {
		if run() != first {
			t.Fatal("the same calls are answered in another way")
		}
	}
}

// P13.6

// use is a call that put a thing in or got it, or dropped it.
type use struct {
	key   int
	drops bool
}

// othersSince: how many other keys were put in or got since the last use of this one; false, if it was never used or is dropped.
func othersSince(uses []use, key int) (int, bool) {
	others := map[int]bool{}
	for _, u := range slices.Backward(uses) {
		switch {
		case u.key == key:
			return len(others), !u.drops
		case !u.drops:
			others[u.key] = true
		}
	}
	return 0, false
}

// TestWhatWasUsedLastIsKept: by what was called alone, no order is kept beside it.
func TestWhatWasUsedLastIsKept(t *testing.T) {
	random := rand.New(rand.NewSource(16))
	for capacity := range 9 {
		c := made[int, int](t, capacity)
		var uses []use
		last := map[int]int{} // the value that was put last
		for step := range 3000 {
			key := random.Intn(12)
			switch random.Intn(5) {
			case 0:
				c.Drop(key)
				uses = append(uses, use{key: key, drops: true})
			case 1, 2:
				if v, ok := c.Get(key); ok {
					if v != last[key] {
						t.Fatalf("Get(%d) = %d, want %d", key, v, last[key])
					}
					uses = append(uses, use{key: key})
				}
			default:
				c.Put(key, step)
				last[key] = step
				uses = append(uses, use{key: key})
			}
			if c.Len() > capacity || len(c.Keys()) != c.Len() {
				t.Fatalf("capacity %d: %d things, %d keys", capacity, c.Len(), len(c.Keys()))
			}
			there := c.Keys()
			for k := range 12 {
				if n, used := othersSince(uses, k); used && n < capacity && !slices.Contains(there, k) {
					t.Fatalf("capacity %d: %d is not there, with %d other keys since", capacity, k, n)
				}
			}
		}
	}
}

func TestOneThatIsUsedAgainAndAgainIsKept(t *testing.T) {
	for _, capacity := range []int{2, 3, 50, api.MaxCache} {
		c := made[int, int](t, capacity)
		checkPut(t, c, -1, 99)
		for k := range 5 * capacity {
			c.Put(k, k)
			if k%(capacity-1) == 0 {
				checkGet(t, c, -1, 99)
			}
		}
		checkGet(t, c, -1, 99)
		if c.Len() != capacity {
			t.Fatalf("Len() = %d, want %d", c.Len(), capacity)
		}
	}
}

func TestKeysAreNeverTwice(t *testing.T) {
	random := rand.New(rand.NewSource(17))
	c := made[int, int](t, 20)
	for step := range 5000 {
		c.Put(random.Intn(30), step)
		c.Drop(random.Intn(60))
		keys := c.Keys()
		slices.Sort(keys)
		if n := len(slices.Compact(keys)); n != c.Len() {
			t.Fatalf("%d unlike keys of %d", n, c.Len())
		}
	}
}

// R4: memory.

func TestKeysAreMemoryOfTheirOwn(t *testing.T) {
	for n := 1; n < 20; n++ {
		b := filled(t, n)
		first, second := b.cache.Keys(), b.cache.Keys()
		want := slices.Clone(first)
		for i := range first[:cap(first)] {
			first[:cap(first)][i] = -5
		}
		_ = append(first[:0], -6, -7, -8)
		if !slices.Equal(second, want) {
			t.Fatal("two answers share memory")
		}
		b.check("a list of keys was changed")
		b.values()
		b.put(1000, 1)
		b.drop(1000)
		b.drop(want[0])
		if !slices.Equal(second, want) {
			t.Fatal("a later call changes an answer")
		}
	}
}

// big is more than the smallest memory that is given out by itself, so that it is known when it is given back.
type big struct{ bytes [4096]byte }

// kept: whether somebody still has it.
func kept(p weak.Pointer[big]) bool {
	runtime.GC()
	runtime.GC()
	return p.Value() != nil
}

func putBig(c *cache.Cache[int, *big], key int) weak.Pointer[big] {
	b := &big{}
	c.Put(key, b)
	return weak.Make(b)
}

func putBigKey(c *cache.Cache[*big, int]) weak.Pointer[big] {
	b := &big{}
	c.Put(b, 1)
	return weak.Make(b)
}

// TestWhatHasGoneIsNotKept: neither in the list, nor in its spare room, nor in the map.
func TestWhatHasGoneIsNotKept(t *testing.T) {
	c := made[int, *big](t, 3)
	one, two, three := putBig(c, 1), putBig(c, 2), putBig(c, 3)
	if !kept(one) || !kept(two) || !kept(three) {
		t.Fatal("what is there is not kept")
	}
	four := putBig(c, 4)
	if kept(one) {
		t.Fatal("what went is kept")
	}
	c.Drop(2)
	if kept(two) {
		t.Fatal("what was dropped is kept")
	}
	anew := putBig(c, 3)
	if kept(three) {
		t.Fatal("a value that was turned is kept")
	}
	c.Drop(3)
	c.Drop(4)
	if kept(four) || kept(anew) {
		t.Fatal("what was dropped last is kept")
	}
	runtime.KeepAlive(c)

	keys := made[*big, int](t, 1)
	first := putBigKey(keys)
	second := putBigKey(keys)
	if kept(first) || !kept(second) {
		t.Fatal("a key that went is kept, or one that is there is not")
	}
	runtime.KeepAlive(keys)
}
