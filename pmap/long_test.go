package pmap_test

import (
	"maps"
	"math"
	"slices"
	"testing"

	"estuary/api"
	"estuary/pmap"
)

// lots is numbers without a rule that is easily seen, the same in each run.
type lots uint64

func (l *lots) next(below int) int {
	*l = *l*6364136223846793005 + 1442695040888963407
	return int(uint64(*l) >> 33 % uint64(below))
}

func toldOf(model map[string]int) []pair {
	var l []pair
	for _, k := range slices.Sorted(maps.Keys(model)) {
		l = append(l, pair{k, model[k]})
	}
	return l
}

// P7.5, P7.6: many puts and takes, by rising, falling and mixed keys: how high maps grow.
func TestHeights(t *testing.T) {
	var mixed lots = 7
	for name, key := range map[string]func(i int) int{
		"rising":  func(i int) int { return i },
		"falling": func(i int) int { return 1<<16 - 1 - i },
		"apart":   func(i int) int { return i * 40503 % (1 << 16) },
		"mixed":   func(i int) int { return mixed.next(1 << 16) },
		"in out":  func(i int) int { return 1<<15 + (i%2*2-1)*i },
	} {
		var m intMap
		for i := range 3000 {
			was := m
			place := key(i)
			_, there := m.Get(keyOf(place))
			m = m.Put(keyOf(place), place)
			most := was.Height() + 1
			if there {
				most = was.Height()
			}
			if bound := 1.45 * math.Log2(float64(m.Len()+2)); float64(m.Height()) > bound || m.Len()-pmap.Shared(m, was) > most {
				t.Fatalf("%s: %d keys, %d high, %d new nodes", name, m.Len(), m.Height(), m.Len()-pmap.Shared(m, was))
			}
		}
		wantWhole(t, m)
		for i := 0; m.Len() > 0; i++ {
			was := m
			k, _, _ := m.At(i * i % m.Len())
			m = m.Take(k)
			if bound := 1.45 * math.Log2(float64(m.Len()+2)); float64(m.Height()) > bound || m.Len()-pmap.Shared(m, was) > 3*was.Height() {
				t.Fatalf("%s: %d keys left, %d high, %d new nodes", name, m.Len(), m.Height(), m.Len()-pmap.Shared(m, was))
			}
			if i%100 == 0 {
				wantWhole(t, m)
			}
		}
	}
}

// P7.2, P7.3, P7.5: a long run of all calls, each held against a plain model; and all older maps tell what they told.
func TestLongRun(t *testing.T) {
	type kept struct {
		m    intMap
		told []pair
	}
	for seed := range lots(12) {
		turns := seed
		model, m := map[string]int{}, intMap{}
		var older []kept
		var unchanged []func(*testing.T)
		for i := range 400 {
			key := keyOf(turns.next(300))
			switch turns.next(8) {
			case 0, 1, 2:
				m, model[key] = m.Put(key, i), i
			case 3, 4:
				m = m.Take(key)
				delete(model, key)
			case 5:
				left, v, is, right := m.Split(key)
				if w, has := model[key]; w != v || has != is {
					t.Fatalf("Split at %q: %v, %v; want %v, %v", key, v, is, w, has)
				}
				m, _ = pmap.Join(left, key, i, right)
				model[key] = i
			case 6:
				var keys []string
				var values []int
				for k, v := range model { // in any order
					keys, values = append(keys, k), append(values, v)
				}
				m = mustOf(t, keys, values)
			case 7:
				if r := m.Root(); r != nil {
					again, e := pmap.Make(r.Left(), r.Key(), i, r.Right())
					if e != api.OK {
						t.Fatalf("Make of a root's own: %v", e)
					}
					m, model[r.Key()] = again, i
				}
			}
			wantTold(t, m, toldOf(model))
			if i%20 == 0 {
				older = append(older, kept{m, toldOf(model)})
				unchanged = append(unchanged, still(m))
			}
		}
		for i, o := range older {
			wantTold(t, o.m, o.told)
			unchanged[i](t)
		}
	}
}

// P7.5: maps made of one another in a row, all of them kept: each tells what it told first.
func TestOlderMaps(t *testing.T) {
	row := []intMap{{}}
	for i := range 120 {
		row = append(row, row[i].Put(keyOf(i*37%120), i))
	}
	unchanged := still(row...)
	for i := range 120 {
		m := row[120]
		m.Take(keyOf(i)).Put(keyOf(i+200), 1)
		left, _, _, right := m.Split(keyOf(i))
		pmap.Join(left, keyOf(i), -1, right)
	}
	unchanged(t)
	var want []pair
	for i := range 120 {
		wantTold(t, row[i], want)
		want = with(want, pair{keyOf(i * 37 % 120), i})
	}
	wantTold(t, row[120], want)
}
