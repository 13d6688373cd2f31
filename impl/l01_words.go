package impl

const (
	wordSize   = 8
	shortSize  = 2
	sumSize    = 4
	halfSize   = 32
	sealedBody = 60
	maxShort   = 65535
	maxSummed  = 20000
)

// nibbleSums has the CRC-32 remainder of each four bits: a byte is taken in two
// steps, so that the table stays short.
var nibbleSums = [16]uint32{
	0x00000000, 0x1db71064, 0x3b6e20c8, 0x26d930ac,
	0x76dc4190, 0x6b6b51f4, 0x4db26158, 0x5005713c,
	0xedb88320, 0xf00f9344, 0xd6d6a3e8, 0xcb61b38c,
	0x9b64c2b0, 0x86d3d2d4, 0xa00ae278, 0xbdbdf21c,
}

func WordBytes(n int64) string { return highestFirst(uint64(n), wordSize) }

func ReadWord(s string) (int64, bool) {
	if len(s) != wordSize {
		return 0, false
	}
	return int64(numberOf(s)), true
}

func ShortBytes(n int64) string {
	if n < 0 || n > maxShort {
		return ""
	}
	return highestFirst(uint64(n), shortSize)
}

func ReadShort(s string) (int64, bool) {
	if len(s) != shortSize {
		return 0, false
	}
	return int64(numberOf(s)), true
}

func Crc(s string) string {
	if len(s) > maxSummed {
		return ""
	}
	sum := ^uint32(0)
	for i := range len(s) {
		sum ^= uint32(s[i])
		sum = sum>>4 ^ nibbleSums[sum&15]
		sum = sum>>4 ^ nibbleSums[sum&15]
	}
	return highestFirst(uint64(^sum), sumSize)
}

func Sealed(s string) string {
	if len(s) > sealedBody {
		return ""
	}
	body := s + string(make([]byte, sealedBody-len(s)))
	return body + Crc(body)
}

func Unsealed(s string) (string, bool) {
	if len(s) != sealedBody+sumSize || s[sealedBody:] != Crc(s[:sealedBody]) {
		return "", false
	}
	return s[:sealedBody], true
}

func Half(image string, n int64) string {
	// n is held against a quotient, since a product of it could wrap.
	if n < 0 || n >= int64(len(image)/halfSize) {
		return ""
	}
	return image[n*halfSize : (n+1)*halfSize]
}

// highestFirst tells the lowest size bytes of n.
func highestFirst(n uint64, size int) string {
	var bytes [wordSize]byte
	for i := range size {
		bytes[size-1-i] = byte(n >> (8 * i))
	}
	return string(bytes[:size])
}

// numberOf is the number whose bytes s has, the highest first; of a word at most.
func numberOf(s string) uint64 {
	var n uint64
	for i := range len(s) {
		n = n<<8 | uint64(s[i])
	}
	return n
}
