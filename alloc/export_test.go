package alloc

import "kelpforest/place"

// AllocIn so many registers, for P104 speaks of any number of them.
func AllocIn(c place.Code, regs int) (Code, error) { return allocIn(c, regs) }
