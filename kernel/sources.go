package kernel

import "strings"

// ahead stands ahead of a method; what it does not stand ahead of is the name of a class.
const ahead = "    "

// methods are all classes' methods.
const methods = `Object
    isNil ^false
    yourself ^self
    = x ^self == x
    ~= x ^(self = x) not
    ifNil: b ^self
UndefinedObject
    isNil ^true
    ifNil: b ^b value
False
    not ^true
    and: b ^false
    or: b ^b value
    ifTrue: a ^nil
    ifFalse: b ^b value
    ifTrue: a ifFalse: b ^b value
True
    not ^false
    and: b ^b value
    or: b ^true
    ifTrue: a ^a value
    ifFalse: b ^nil
    ifTrue: a ifFalse: b ^a value
Integer
    negated ^0 - self
    > x ^x < self
    <= x ^(x < self) not
    >= x ^(self < x) not
    abs ^self < 0 ifTrue: [0 - self] ifFalse: [self]
    max: x ^self < x ifTrue: [x] ifFalse: [self]
    timesRepeat: b | i | i := 0. [i < self] whileTrue: [b value. i := i + 1]
    to: n do: b | i | i := self. [i <= n] whileTrue: [b value: i. i := i + 1]
    factorial ^self < 2 ifTrue: [1] ifFalse: [self * (self - 1) factorial]
Array
    do: b 1 to: self size do: [:i | b value: (self at: i)]
    inject: x into: b | r | r := x. self do: [:e | r := b value: r value: e]. ^r
    collect: b | r | r := Array new: self size. 1 to: self size do: [:i | r at: i put: (b value: (self at: i))]. ^r
Dictionary
    at: k ifAbsent: b ^(self includesKey: k) ifTrue: [self at: k] ifFalse: [b value]`

// Sources are the sources of a class's methods.
func Sources(c int64) []string {
	var out []string
	var whose int64
	for _, line := range strings.Split(methods, "\n") {
		source, is := strings.CutPrefix(line, ahead)
		if !is {
			whose = Oop(line)
		} else if whose == c {
			out = append(out, source)
		}
	}
	return out
}
