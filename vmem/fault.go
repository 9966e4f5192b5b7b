package vmem

import (
	"strconv"

	"reprieve/api"
)

// noText stands for a value that can't be told by what the language gives.
const noText = "a value without a text"

// textOf tells what was panicked with. The value may have a method that panics in its turn.
func textOf(v any) (text string) {
	defer func() {
		if recover() != nil {
			text = noText
		}
	}()
	switch x := v.(type) {
	case string:
		return x
	case error:
		return x.Error()
	case interface{ String() string }:
		return x.String()
	case api.Errno:
		return strconv.Itoa(int(x))
	case bool:
		return strconv.FormatBool(x)
	}
	return numberText(v)
}

// numberText tells an integer of any kind that the language has.
func numberText(v any) string {
	switch x := v.(type) {
	case int:
		return strconv.Itoa(x)
	case int8:
		return strconv.Itoa(int(x))
	case int16:
		return strconv.Itoa(int(x))
	case int32:
		return strconv.Itoa(int(x))
	case int64:
		return strconv.FormatInt(x, 10)
	case uint:
		return strconv.FormatUint(uint64(x), 10)
	case uint8:
		return strconv.FormatUint(uint64(x), 10)
	case uint16:
		return strconv.FormatUint(uint64(x), 10)
	case uint32:
		return strconv.FormatUint(uint64(x), 10)
	case uint64:
		return strconv.FormatUint(x, 10)
	case uintptr:
		return strconv.FormatUint(uint64(x), 10)
	}
	return noText
}
