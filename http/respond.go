package http

import "strconv"

const (
	lineEnd = "\r\n"
	numbers = 1000 // of three digits
)

// Respond answers the bytes of a response; closes says in it that the
// connection is closed behind it.
func Respond(status int, body []byte, closes bool) []byte {
	head := "HTTP/1.1 " + digits(status) + " " + reason(status) + lineEnd +
		"content-length: " + strconv.Itoa(len(body)) + lineEnd
	if closes {
		head += "connection: close" + lineEnd
	}
	return append([]byte(head+lineEnd), body...)
}

// digits are the last three of the status.
func digits(status int) string {
	n := status % numbers
	if n < 0 {
		n = -n
	}
	// The number behind keeps the noughts ahead.
	return strconv.Itoa(numbers + n)[1:]
}

func reason(status int) string {
	switch status {
	case 200:
		return "OK"
	case 202:
		return "Accepted"
	case 400:
		return "Bad Request"
	case 404:
		return "Not Found"
	case 405:
		return "Method Not Allowed"
	case 409:
		return "Conflict"
	case 413:
		return "Content Too Large"
	case 429:
		return "Too Many Requests"
	case 431:
		return "Request Header Fields Too Large"
	case 503:
		return "Service Unavailable"
	}
	return "Unknown"
}
