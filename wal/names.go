package wal

import (
	"strconv"
	"strings"
)

const (
	namePrefix = "log."
	tempName   = namePrefix + "tmp"
	maxNumber  = 9999999999999999 // the greatest of 16 digits
)

// segmentName gives the name of the file with that number.
func segmentName(number int) string { return namePrefix + strconv.Itoa(number) }

// segmentNumber gives a segment's number, and 0 for a file that is none. The name is made anew and compared, so that no other way to write the number counts.
func segmentNumber(file string) int {
	number, err := strconv.Atoi(strings.TrimPrefix(file, namePrefix))
	if err != nil || number < 1 || number > maxNumber || segmentName(number) != file {
		return 0
	}
	return number
}

// greatestNumber gives the greatest number of the segments among files, 0 without one.
func greatestNumber(files []string) int {
	greatest := 0
	for _, file := range files {
		greatest = max(greatest, segmentNumber(file))
	}
	return greatest
}
