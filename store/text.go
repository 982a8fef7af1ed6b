package store

import "scarf/api"

// wide is what the length of a text of EncLatin1 has more, if its form is FormUTF16.
const wide = 1 << 31

// textAlign tells the alignment of texts.
func (h *Heap) textAlign() int {
	if h.enc == api.EncUTF8 {
		return 1
	}
	return 2
}

// form tells in which form a text lies whose length is told, and how many units it has.
func (h *Heap) form(n int) (int, int) {
	switch {
	case h.enc == api.EncUTF8:
		return api.FormUTF8, n
	case h.enc == api.EncUTF16:
		return api.FormUTF16, n
	case n < wide:
		return api.FormLatin1, n
	}
	return api.FormUTF16, n - wide
}

// length tells the length of a text that lies in a form, and has so many units.
func (h *Heap) length(form, units int) int {
	if h.enc == api.EncLatin1 && form == api.FormUTF16 {
		return units + wide
	}
	return units
}

// unit tells how many bytes a unit of a form has.
func unit(form int) int {
	if form == api.FormUTF16 {
		return 2
	}
	return 1
}
