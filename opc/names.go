package opc

import (
	"strings"

	"quire/utf"
	"quire/zip"
)

// The names that no part may have, since files of other kinds have them.
const (
	typesFile  = "[Content_Types].xml"
	relsFolder = "_rels"
	relsEnd    = ".rels"
)

// RelsOf answers the name of the file that has what leads from the part of that name; of the empty name: from the package itself.
func RelsOf(name string) string {
	folder, last := cut(name)
	return folder + relsFolder + "/" + last + relsEnd
}

// ownerOf answers the name whose RelsOf is that name. False: there is none.
func ownerOf(name string) (string, bool) {
	folder, last := cut(name)
	owner := strings.TrimSuffix(folder, relsFolder+"/") + strings.TrimSuffix(last, relsEnd)
	if RelsOf(owner) != name {
		return "", false
	}
	return owner, true
}

// cut answers a name's folder, with the slash behind it, and its last name.
func cut(name string) (folder, last string) {
	at := strings.LastIndexByte(name, '/') + 1
	return name[:at], name[at:]
}

// like goes by utf.Lower, since a name that is asked may be no right one, and may have letters that other ways to fold them would turn.
func like(a, b string) bool { return utf.Lower(a) == utf.Lower(b) }

// partName tells whether a part may have this name.
func partName(name string) bool {
	return zip.Right(name) && !like(name, typesFile) && !inRels(name)
}

// inRels tells whether the name's last folder is the one of files of what leads.
func inRels(name string) bool {
	folder, _ := cut(name)
	_, last := cut(strings.TrimSuffix(folder, "/"))
	return like(last, relsFolder)
}

// Resolve answers the name to which a target leads from a part of that name, or from the package itself, if from is empty. False: it leads to none.
func Resolve(from, target string) (string, bool) {
	name, ok := follow(from, target)
	if !ok || !zip.Right(name) {
		return "", false
	}
	return name, true
}

// follow answers what a target comes to, a right name or not. False: it leads above the package.
func follow(from, target string) (string, bool) {
	if name, whole := strings.CutPrefix(target, "/"); whole {
		return name, true
	}
	folder, _ := cut(from)
	var way []string
	for part := range strings.SplitSeq(folder+target, "/") {
		switch part {
		case ".":
		case "..":
			if len(way) == 0 {
				return "", false
			}
			way = way[:len(way)-1]
		default:
			way = append(way, part)
		}
	}
	return strings.Join(way, "/"), true
}
