package emit

import (
	"kelpforest/api"
	"kelpforest/code"
)

// Check an image.
func Check(m Image) error {
	if len(m.Funs) > api.MaxFuns || len(m.Words) > api.MaxWords {
		return api.ErrFull
	}
	ahead := map[string]int{}
	for i, f := range m.Funs {
		if err := m.checkFun(f, ahead); err != nil {
			return &api.Fault{At: i, Err: err}
		}
		ahead[f.Name] = i
	}
	bounds := m.bounds()
	for i, w := range m.Words {
		if err := checkWord(w, bounds); err != nil {
			return &api.Fault{At: i, Err: err}
		}
	}
	return nil
}

// checkFun: a function by itself, and its name among those ahead.
func (m Image) checkFun(f Fun, ahead map[string]int) error {
	_, known := ahead[f.Name]
	switch {
	case f.Name == "" || known:
		return api.ErrName
	case f.Params < 0 || f.Params > api.MaxParams:
		return api.ErrArgs
	case f.Slots < 0 || f.Slots > api.MaxNodes || f.Entry < 0 || f.Entry >= len(m.Words):
		return api.ErrBound
	}
	return nil
}

// bounds of the ops whose Imm is the number of one among many: how many there are.
func (m Image) bounds() map[string]int {
	return map[string]int{
		"jump":  len(m.Words),
		"if":    len(m.Words),
		"call":  len(m.Funs),
		"load":  api.MaxNodes,
		"store": api.MaxNodes,
		"param": api.MaxParams,
		"arg":   api.MaxParams,
	}
}

// checkWord by the bounds of its image.
func checkWord(w uint64, bounds map[string]int) error {
	i, err := code.Decode(w)
	if err != nil {
		return err
	}
	if many, bounded := bounds[i.Op]; bounded && (i.Imm < 0 || i.Imm >= many) {
		return api.ErrBound
	}
	return nil
}
