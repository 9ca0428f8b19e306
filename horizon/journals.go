package horizon

import (
	"errors"
	"strconv"

	"horizon/api"
	"horizon/journal"
	"horizon/stamp"
)

// The commands on the script's journal.

func (p *player) save(a args) (answer, error) {
	b, err := p.desk.Save(a.numbers[0])
	// A run that ends with a fault has its error, and a journal all the same.
	if errors.Is(err, api.ErrEvery) {
		return nil, err
	}
	p.journal, p.written = b, true
	return answer{"ok bytes " + strconv.Itoa(len(b)) + " sum " + strconv.FormatUint(uint64(stamp.Sum(b)), 10)}, nil
}

func (p *player) crash(a args) (answer, error) {
	n := a.numbers[0]
	if n < 0 || n > len(p.journal) {
		return nil, api.ErrArgs
	}
	p.journal = p.journal[:n]
	return answer{"ok bytes " + strconv.Itoa(n)}, nil
}

func (p *player) spoil(a args) (answer, error) {
	n, v := a.numbers[0], a.numbers[1]
	if n < 0 || n >= len(p.journal) || v < 0 || v > 255 {
		return nil, api.ErrArgs
	}
	p.journal[n] += byte(v)
	return answer{"ok"}, nil
}

func (p *player) scan(args) (answer, error) {
	records, size, err := journal.Scan(p.journal)
	line := "ok records " + strconv.Itoa(records) + " bytes " + strconv.Itoa(size)
	if err != nil {
		return answer{line + " error " + codeOf(err)}, nil
	}
	return answer{line + " whole"}, nil
}

func (p *player) resume(a args) (answer, error) {
	whole, r, err := p.desk.resume(a.numbers[0], p.journal)
	if r.Kind == 0 {
		return nil, err
	}
	p.journal = whole
	return answer{"ok " + outcome(r) + " bytes " + strconv.Itoa(len(whole))}, nil
}
