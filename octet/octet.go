// Package octet: the elementary strings of the protocol: see DOC.md, chapter 1.
package octet

import (
	"bytes"
	"strconv"
	"strings"

	"franking/api"
)

const (
	atomSpecials = "(){%*\"\\]"
	crlf         = "\r\n"
	maxDigits    = 10
)

// Fold works byte by byte, and not by runes, so that strings that are not
// UTF-8 keep all their other bytes.
func Fold(s string) string {
	b := []byte(s)
	for i, c := range b {
		if c >= 'A' && c <= 'Z' {
			b[i] = c - 'A' + 'a'
		}
	}
	return string(b)
}

// Same is not strings.EqualFold, which would also fold letters beyond ASCII.
func Same(a, b string) bool {
	return len(a) == len(b) && Fold(a) == Fold(b)
}

// Atom reports whether s can be written on the wire without quotes.
func Atom(s string) bool {
	for i := range len(s) {
		if !atomByte(s[i]) {
			return false
		}
	}
	return s != ""
}

func atomByte(c byte) bool {
	return c >= 33 && c <= 126 && strings.IndexByte(atomSpecials, c) < 0
}

// Quote limits the length of s, not of the result: the backslashes that it
// adds do not count.
func Quote(s string) (string, bool) {
	if len(s) > api.MaxLine {
		return "", false
	}
	q := []byte{'"'}
	for i := range len(s) {
		if !quotable(s[i]) {
			return "", false
		}
		if escaped(s[i]) {
			q = append(q, '\\')
		}
		q = append(q, s[i])
	}
	return string(append(q, '"')), true
}

func quotable(c byte) bool {
	return c != 0 && c != '\n' && c != '\r' && c <= 127
}

func escaped(c byte) bool {
	return c == '"' || c == '\\'
}

// Unquote has no limit of length, because its callers limit the line that s
// is a part of.
func Unquote(s string) (t string, n int, err api.Errno) {
	if s == "" || s[0] != '"' {
		return "", 0, api.EFORM
	}
	var text []byte
	for i := 1; i < len(s); i++ {
		if s[i] == '"' {
			return string(text), i + 1, api.OK
		}
		if !quotable(s[i]) {
			return "", 0, api.EFORM
		}
		if s[i] == '\\' {
			i++
			if i == len(s) {
				return "", 0, api.EMORE
			}
			if !escaped(s[i]) {
				return "", 0, api.EFORM
			}
		}
		text = append(text, s[i])
	}
	return "", 0, api.EMORE
}

// NString falls back on a literal, which can hold any bytes.
func NString(s string) string {
	if q, ok := Quote(s); ok {
		return q
	}
	return "{" + strconv.Itoa(len(s)) + "}" + crlf + s
}

// Lines copies every line by itself, so that a caller who appends to one of
// them changes neither b nor the next line.
func Lines(b []byte) [][]byte {
	var lines [][]byte
	for len(b) > 0 {
		n := lineLen(b)
		lines = append(lines, bytes.Clone(b[:n]))
		b = b[n:]
	}
	return lines
}

func lineLen(b []byte) int {
	at := bytes.Index(b, []byte(crlf))
	if at < 0 {
		return len(b)
	}
	return at + len(crlf)
}

// Num is not strconv.ParseInt, which would also accept a sign and numbers of
// more digits.
func Num(s string) (int64, bool) {
	if s == "" || len(s) > maxDigits {
		return 0, false
	}
	var n int64
	for i := range len(s) {
		if s[i] < '0' || s[i] > '9' {
			return 0, false
		}
		n = n*10 + int64(s[i]-'0')
	}
	return n, true
}
