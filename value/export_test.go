package value

// Layers tells the tests how many wrappers stand around a value, which no call tells.
func Layers(v Value) int { return len(layersOf(v).wrappers) }
