package compile

import (
	"sync"

	"portage/api"
)

// Cache holds register code; it may be asked from several goroutines.
type Cache struct {
	program api.Program
	facts   api.Facts

	lock  sync.Mutex
	codes map[int]api.Code // by their functions; what lies here never changes, so that it is read without the lock once it was taken out
}

// NewCache is a cache for a program.
func NewCache(p api.Program, f api.Facts) *Cache {
	return &Cache{program: copiedProgram(p), facts: copiedFacts(f), codes: map[int]api.Code{}}
}

// Compile puts a function's register code in, if there is none: whether there is some now.
func (c *Cache) Compile(fn int, prof api.Profile, passes int) bool {
	if _, ok := c.held(fn); ok {
		return true
	}
	r := c.compiled(fn, prof, passes)
	if r.err != api.OK {
		return false
	}
	c.lock.Lock()
	defer c.lock.Unlock()
	c.lay(r)
	return true
}

// Get is a function's register code.
func (c *Cache) Get(fn int) (api.Code, bool) {
	code, ok := c.held(fn)
	return copiedCode(code), ok
}

// Len is how many functions have register code.
func (c *Cache) Len() int {
	c.lock.Lock()
	defer c.lock.Unlock()
	return len(c.codes)
}

// All compiles several functions at the same time; the answer is by their numbers, as if one had come behind the other.
func (c *Cache) All(fns []int, prof api.Profile, passes int) []bool {
	results := c.compiledAll(c.missing(fns), prof, passes)
	// All is laid in, and told, under one lock: nobody sees a part of it.
	c.lock.Lock()
	defer c.lock.Unlock()
	for _, r := range results {
		c.lay(r)
	}
	held := make([]bool, len(fns))
	for k, fn := range fns {
		_, held[k] = c.codes[fn]
	}
	return held
}

// held is the code of a function as it lies in the cache.
func (c *Cache) held(fn int) (api.Code, bool) {
	c.lock.Lock()
	defer c.lock.Unlock()
	code, ok := c.codes[fn]
	return code, ok
}

// missing are those of some functions, each once, of which no code is held.
func (c *Cache) missing(fns []int) []int {
	c.lock.Lock()
	defer c.lock.Unlock()
	var l []int
	met := map[int]struct{}{}
	for _, fn := range fns {
		_, again := met[fn]
		_, held := c.codes[fn]
		if again || held || fn < 0 || fn >= len(c.program.Funcs) {
			continue
		}
		met[fn] = struct{}{}
		l = append(l, fn)
	}
	return l
}

// result is what became of a function.
type result struct {
	fn   int
	code api.Code
	err  api.Errno
}

// compiled is what becomes of a function. The lock is not held meanwhile, so that nobody waits for it.
func (c *Cache) compiled(fn int, prof api.Profile, passes int) result {
	code, err := Function(c.program, c.facts, fn, prof, passes)
	return result{fn, code, err}
}

// workers is how many functions are compiled at the same time.
const workers = 8

// compiledAll is what becomes of several functions, in their order.
func (c *Cache) compiledAll(fns []int, prof api.Profile, passes int) []result {
	out := make([]result, len(fns))
	var wait sync.WaitGroup
	for k := range min(workers, len(fns)) {
		wait.Add(1)
		go func() {
			defer wait.Done()
			for j := k; j < len(fns); j += workers {
				out[j] = c.compiled(fns[j], prof, passes)
			}
		}()
	}
	wait.Wait()
	return out
}

// lay lays in what became of a function, if it is code, and no other came first. The lock is held.
func (c *Cache) lay(r result) {
	if _, ok := c.codes[r.fn]; !ok && r.err == api.OK {
		c.codes[r.fn] = r.code
	}
}
