package syntax

import "bitemporal/api"

// instant reads the number of an instant.
func (p *parser) instant() int {
	t := p.take(api.TokenNumber)
	if t.Int >= api.Forever {
		panic(failure{t.At, api.ErrRange})
	}
	return t.Int
}

// period reads FROM number TO (number | FOREVER). Its numbers are examined when both have been read.
func (p *parser) period() api.Period {
	p.need("FROM")
	first := p.take(api.TokenNumber)
	p.need("TO")
	result := api.Period{From: first.Int, To: api.Forever}
	forever := p.has("FOREVER")
	if !forever {
		result.To = p.number()
	}
	if result.From >= result.To || !forever && result.To >= api.Forever {
		panic(failure{first.At, api.ErrRange})
	}
	return result
}

// clause reads what follows SYSTEM.
func (p *parser) clause() api.Clause {
	switch p.mark() {
	case "AS":
		p.need("AS", "OF")
		return api.Clause{Kind: api.ClauseAsOf, From: p.instant()}
	case "FROM":
		system := p.period()
		return api.Clause{Kind: api.ClauseFromTo, From: system.From, To: system.To}
	case "BETWEEN":
		return p.between()
	}
	p.need("ALL")
	return api.Clause{Kind: api.ClauseAll}
}

// between reads BETWEEN number AND number. Its numbers are examined when both have been read.
func (p *parser) between() api.Clause {
	p.need("BETWEEN")
	first := p.take(api.TokenNumber)
	p.need("AND")
	last := p.number()
	if first.Int > last || last >= api.Forever {
		panic(failure{first.At, api.ErrRange})
	}
	return api.Clause{Kind: api.ClauseBetween, From: first.Int, To: last}
}
