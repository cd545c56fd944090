package xml

// resolved answers the element with that beginning, its names with their namespaces, and keeps what it tells. False: a prefix or a telling that can't be, or something twice.
func (r *reader) resolved(t tag) (Node, bool) {
	if !r.tell(t.attributes) {
		return Node{}, false
	}
	space, ok := r.space(t.prefix)
	if !ok {
		return Node{}, false
	}
	attrs, ok := r.attrs(t.attributes)
	if !ok || twice(attrs) {
		return Node{}, false
	}
	return Node{Space: space, Name: t.name, Attrs: attrs}, true
}

// tells answers the prefix of which a tells the namespace. False: it tells none.
func (a attribute) tells() (string, bool) {
	switch {
	case a.qualified == qualified{name: xmlnsName}:
		return "", true
	case a.prefix == xmlnsName:
		return a.name, true
	}
	return "", false
}

// tell keeps the namespaces that an element's attributes tell.
func (r *reader) tell(l []attribute) bool {
	outside := len(r.told)
	for _, a := range l {
		prefix, ok := a.tells()
		if !ok {
			continue
		}
		if !mayTell(prefix, a.value) || find(r.told[outside:], prefix) >= 0 {
			return false
		}
		r.told = append(r.told, telling{prefix, a.value})
	}
	return true
}

// mayTell tells whether that namespace may be told for a prefix. Names without one alone may be put back into none.
func mayTell(prefix, space string) bool {
	return prefix == "" || prefix != xmlPrefix && prefix != xmlnsName && space != ""
}

// find answers the number of the last telling for a prefix, or -1.
func find(told []telling, prefix string) int {
	for i := len(told) - 1; i >= 0; i-- {
		if told[i].prefix == prefix {
			return i
		}
	}
	return -1
}

// space answers the namespace of an element's names with a prefix, or without one. A name may not be put into the namespace of xmlns: no right element has it, and what is read is right.
func (r *reader) space(prefix string) (string, bool) {
	if prefix == xmlPrefix {
		return xmlSpace, true
	}
	at := find(r.told, prefix)
	if at < 0 {
		return "", prefix == ""
	}
	return r.told[at].space, r.told[at].space != xmlnsSpace
}

// attrs answers the attributes that tell no namespace. Without a prefix they have none, whatever is told.
func (r *reader) attrs(l []attribute) ([]Attr, bool) {
	var attrs []Attr
	for _, a := range l {
		if _, ok := a.tells(); ok {
			continue
		}
		space, ok := "", true
		if a.prefix != "" {
			space, ok = r.space(a.prefix)
		}
		if !ok {
			return nil, false
		}
		attrs = append(attrs, Attr{space, a.name, a.value})
	}
	return attrs, true
}

// twice tells whether two Attrs are alike by Space and Name.
func twice(attrs []Attr) bool {
	for i, a := range attrs {
		if _, ok := Attribute(Node{Attrs: attrs[:i]}, a.Space, a.Name); ok {
			return true
		}
	}
	return false
}
