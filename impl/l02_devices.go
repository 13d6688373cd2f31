package impl

const MaxLines = 128

const lineSize = 64

// What Crash may be told to keep of a line; any other number keeps Safe.
const (
	keepSent = 1
	keepData = 2
)

type Line struct {
	At   int64
	Data string
	Sent string
}

type Device struct {
	Safe  string
	Lines []Line
}

func DeviceOk(d Device) bool {
	if len(d.Safe)%lineSize != 0 || lineCount(d) < 1 || lineCount(d) > MaxLines {
		return false
	}
	last := int64(-1)
	for _, l := range d.Lines {
		if l.At <= last || !hasLine(d, l.At) || !isLine(l) {
			return false
		}
		last = l.At
	}
	return true
}

func Seen(d Device) string {
	if !DeviceOk(d) {
		return ""
	}
	bytes := []byte(d.Safe)
	for _, l := range d.Lines {
		putLine(bytes, l.At, l.Data)
	}
	return string(bytes)
}

func Load(d Device, at int64, n int64) (string, bool) {
	seen := Seen(d)
	size := int64(len(seen))
	// n is held against what is left, since the sum of both could wrap.
	if seen == "" || at < 0 || n < 0 || at > size || n > size-at {
		return "", false
	}
	return seen[at : at+n], true
}

func Store(d Device, at int64, data string) (Device, bool) {
	if !DeviceOk(d) || !inOneLine(d, at, int64(len(data))) {
		return Device{}, false
	}
	place, from := at/lineSize, at%lineSize
	lines := linesByPlace(d)
	l, ok := lines[place]
	if !ok {
		l = Line{At: place, Data: safeLine(d, place)}
	}
	l.Data = l.Data[:from] + data + l.Data[from+int64(len(data)):]
	lines[place] = l
	return Device{Safe: d.Safe, Lines: linesInOrder(lines, lineCount(d))}, true
}

func Flush(d Device, line int64) (Device, bool) {
	if !DeviceOk(d) || !hasLine(d, line) {
		return Device{}, false
	}
	lines := linesByPlace(d)
	if l, ok := lines[line]; ok {
		l.Sent = l.Data
		lines[line] = l
	}
	return Device{Safe: d.Safe, Lines: linesInOrder(lines, lineCount(d))}, true
}

func Fence(d Device) Device {
	if !DeviceOk(d) {
		return Device{}
	}
	safe := []byte(d.Safe)
	lines := linesByPlace(d)
	for _, l := range d.Lines {
		// Nothing sent leaves Safe as it is and is never what Data is.
		putLine(safe, l.At, l.Sent)
		if l.Data == l.Sent {
			delete(lines, l.At)
		} else {
			lines[l.At] = Line{At: l.At, Data: l.Data}
		}
	}
	return Device{Safe: string(safe), Lines: linesInOrder(lines, lineCount(d))}
}

func Evict(d Device, line int64) (Device, bool) {
	if !DeviceOk(d) || !hasLine(d, line) {
		return Device{}, false
	}
	safe := []byte(d.Safe)
	lines := linesByPlace(d)
	if l, ok := lines[line]; ok {
		putLine(safe, line, l.Data)
		delete(lines, line)
	}
	return Device{Safe: string(safe), Lines: linesInOrder(lines, lineCount(d))}, true
}

func AtRisk(d Device) []int64 {
	if !DeviceOk(d) {
		return nil
	}
	var places []int64
	for _, l := range d.Lines {
		if l.Data != safeLine(d, l.At) {
			places = append(places, l.At)
		}
	}
	return places
}

func Crash(d Device, keep []int64) Device {
	if !DeviceOk(d) {
		return Device{}
	}
	safe := []byte(d.Safe)
	for i := range min(len(d.Lines), len(keep)) {
		putLine(safe, d.Lines[i].At, keptOf(d.Lines[i], keep[i]))
	}
	return Device{Safe: string(safe)}
}

func lineCount(d Device) int64 { return int64(len(d.Safe) / lineSize) }

func hasLine(d Device, line int64) bool { return line >= 0 && line < lineCount(d) }

func isLine(l Line) bool {
	return len(l.Data) == lineSize && (len(l.Sent) == lineSize || l.Sent == "")
}

func safeLine(d Device, line int64) string { return lineOf(d.Safe, line) }

func lineOf(image string, line int64) string {
	return image[line*lineSize : (line+1)*lineSize]
}

// inOneLine asks for the line ahead of any sum, which then cannot wrap.
func inOneLine(d Device, at int64, n int64) bool {
	return n >= 1 && n <= lineSize && at >= 0 && hasLine(d, at/lineSize) && at%lineSize+n <= lineSize
}

// putLine leaves the line as it is when there is no data.
func putLine(bytes []byte, line int64, data string) {
	copy(bytes[line*lineSize:], data)
}

// keptOf is empty when what Safe has is to stay.
func keptOf(l Line, keep int64) string {
	switch keep {
	case keepData:
		return l.Data
	case keepSent:
		return l.Sent
	}
	return ""
}

func linesByPlace(d Device) map[int64]Line {
	lines := make(map[int64]Line, len(d.Lines))
	for _, l := range d.Lines {
		lines[l.At] = l
	}
	return lines
}

// linesInOrder goes through the places and not through the map, whose order is not fixed.
func linesInOrder(lines map[int64]Line, count int64) []Line {
	var list []Line
	for place := range count {
		if l, ok := lines[place]; ok {
			list = append(list, l)
		}
	}
	return list
}
