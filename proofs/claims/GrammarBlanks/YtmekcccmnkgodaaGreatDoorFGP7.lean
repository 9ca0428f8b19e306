import Derived.Test.YtmekcccmnkgodaaGreatDoorFGP4
namespace Go.Proofs.YtmekcccmnkgodaaGreatDoor
open Go.ChangeShapes Go.WideShapes Go.ChangeAt Go.RowKit
set_option linter.unusedVariables false
set_option linter.unusedSimpArgs false
theorem own_ne {W : World} {B sz m g : Nat} {t t' : TypeId} {v : Value} {F : Nat → Value} {cs : Array Value} {fz : Nat × Nat} (h : Own W B t sz v m F) (hg : W.heap[g]? = some (.cells cs t' fz)) (hne : t ≠ t') : ∀ k, v.ownBlock = some k → k ≠ g := by
  rintro k hk rfl
  rcases h.2 with ⟨h9, _⟩ | ⟨g', cap, cur, rfl, _, h5, _⟩
  · rw [h9] at hk; cases hk
  · have : g' = k := by simpa [Value.ownBlock] using hk
    subst this
    rw [hg] at h5
    injection h5 with h5
    injection h5 with _ h5 _
    exact hne h5.symm
/-- a token's box is none of the parser's -/
theorem PW.row {W W' : World} {base pb : Nat} {lp : Option Addr} {lc n : Nat} {X : Nat → Tk} {s : St} {ks : List Value} (h : PW W base pb lp lc n X s ks) {g : Nat} {cs : Array Value} {fz : Nat × Nat} (hg : W.heap[g]? = some (.cells cs 40 fz)) (hb : base ≤ g) (ho : ∀ k, k ≠ g → W'.heap[k]? = W.heap[k]?) (hs : W.heap.size ≤ W'.heap.size) : PW W' base pb lp lc n X s ks := by
  obtain ⟨mv, h1, h2⟩ := h.blk
  have hne : pb ≠ g := by
    rintro rfl
    rw [hg] at h1
    injection h1 with h1
    injection h1 with _ h1 _
    revert h1
    decide
  refine ⟨⟨mv, (ho pb hne).trans h1, h2.far fun k hk => ho k (own_ne h2 hg (by decide) k hk)⟩, ?_, h.len, fun i d v hd hv => (h.kid i d v hd hv).far fun k hk => ho k (own_ne (h.kid i d v hd hv) hg (by decide) k hk), h.apt, h.pl, h.nx, h.dp, Nat.le_trans h.sz hs⟩
  rcases h.tx with h9 | ⟨b, o, e, hl, hc⟩
  · exact .inl h9
  · exact .inr ⟨b, o, e, hl, fun i r hi hr => (World.cell?_of_block (a := ⟨b, o + i * 5 + r, none⟩) (ho b (by omega))).trans (hc i r hi hr)⟩
theorem KG.row {base g : Nat} {w W : World} (h : KG base w W) (hg : w.heap.size ≤ g) (hb : base ≤ w.heap.size) (cs : Array Value) : KG base w (W.setRow g cs) :=
  ⟨h.b.trans (below_setRow (by omega) cs), fun k cs' ty fz hk h1 h2 => (setRow_other W g k cs (by have := (Array.getElem?_eq_some_iff.1 hk).1; omega)).trans (h.oth k cs' ty fz hk h1 h2)⟩
/-- how deep the parser is, written -/
theorem PW.deep {w : World} {base pb : Nat} {lp : Option Addr} {lc n : Nat} {X : Nat → Tk} {s : St} {ks : List Value} (h : PW w base pb lp lc n X s ks) (v : Nat) (hv : v ≤ 48) : PW (w.setCell ⟨pb, 2, none⟩ (.int .i64 (v : Int))) base pb lp lc n X ⟨s.nx, v, s.md⟩ ks ∧ KG base w (w.setCell ⟨pb, 2, none⟩ (.int .i64 (v : Int))) := by
  obtain ⟨i, d, md⟩ := s
  have := fin1 h (Below.refl _ w) 2 (.inr rfl) v (.inr ⟨rfl, hv⟩) (w5 := w.setCell ⟨pb, 2, none⟩ (.int .i64 (v : Int))) (fun _ _ => rfl) ⟨rfl, rfl, rfl⟩ (by simp [World.setCell])
  rw [if_neg (by decide)] at this
  exact this
/-- and where it would be too deep, what stays -/
theorem kg_deep {w : World} {base pb : Nat} {lp : Option Addr} {lc n : Nat} {X : Nat → Tk} {s : St} {ks : List Value} (h : PW w base pb lp lc n X s ks) (v : Value) : KG base w (w.setCell ⟨pb, 2, none⟩ v) := by
  obtain ⟨mv, hb, _⟩ := h.blk
  exact kg_but h.pl hb (fun k hk _ => Below.heap_setCell w ⟨pb, 2, none⟩ v k hk) ⟨rfl, rfl, rfl⟩ (by simp [World.setCell])
set_option maxRecDepth 100000 in
set_option maxHeartbeats 4000000 in
theorem enter_any {w : World} {base pb : Nat} {lp : Option Addr} {lc n : Nat} {X : Nat → Tk} {s : St} {ks : List Value} (h : PW w base pb lp lc n X s ks) (hn : n ≤ 16384) (h0 : 0 < n) (hr : ∀ i, i < n → TkR (X i)) (hg : Sp w) (k : Int) (hk : k ≠ 0) : Calls Tryz.prog 76 #[.pointer (some ⟨pb, 0, none⟩), .int .i64 k] w (FtT base pb lp lc n X w ks (enter X n k s)) := by
  obtain ⟨W, hW⟩ : ∃ W, w.alloc (.cells #[.int .i64 0, .string ⟨#[]⟩, .int .u64 0, .int .i64 0, .int .i64 0] 40) = W := ⟨_, rfl⟩
  have hbW : Below w.heap.size w W := by rw [← hW]; exact (Below.refl _ w).alloc (Nat.le_refl _) _
  have hbx : W.heap[w.heap.size]? = some (.cells #[.int .i64 0, .string ⟨#[]⟩, .int .u64 0, .int .i64 0, .int .i64 0] 40 (0, 0)) := by rw [← hW]; exact World.alloc_heap_new w _
  have HT0 := take_any (h.below hbW) hn h0 hr (hg.keep hbW) k hk
  have hkW : KG base w W := KG.of_below hbW h.sz
  have hsz := h.sz
  unfold enter
  cases hT : take X n k s with
  | out => exact absurd hT take_ne
  | bad er =>
    rw [hT] at HT0
    have HT : Hid (Calls Tryz.prog 73 #[.pointer (some ⟨pb, 0, none⟩), .int .i64 k] W (PanP base W er)) := HT0
    have HK := mhid hkW
    clear h hr hg hbW hbx HT0 hT hkW
    go_enter Tryz.func76, Tryz.ntmps76
    go_wp2_with (go_at_call 73; (try rw [hW]); (with_reducible refine (HT.out).mono ?_); rintro e w1 ⟨b1, rfl, h11, h12, h13⟩)
    exact ⟨rfl, b1, rfl, h11, h12, HK.out.trans h13⟩
  | ok s1 t =>
    rw [hT] at HT0
    have HT : Hid (Calls Tryz.prog 73 #[.pointer (some ⟨pb, 0, none⟩), .int .i64 k] W fun e w' => e = .returned (.agg #[.int .i64 t.kind, .string ⟨t.text.toArray⟩, .int .u64 (t.num : Int), .int .i64 t.line, .int .i64 t.col]) ∧ PW w' base pb lp lc n X s1 ks ∧ KG base W w') := HT0
    have HK := mhid hkW
    obtain ⟨R, hR⟩ : ∃ R, ((Pr.ok s1 t).bind fun s1 t => if 48 < s1.dp + 1 then Pr.bad ⟨s.nx, t.line, t.col, 42⟩ else Pr.ok ⟨s1.nx, s1.dp + 1, s1.md⟩ t) = R := ⟨_, rfl⟩
    rw [hR]
    have HRR : Hid ((if 48 < s1.dp + 1 then Pr.bad ⟨s.nx, t.line, t.col, 42⟩ else Pr.ok ⟨s1.nx, s1.dp + 1, s1.md⟩ t) = R) := hR
    have HBX := mhid hbx
    have hlW : w.heap.size < W.heap.size := (Array.getElem?_eq_some_iff.1 hbx).1
    clear h hr hg hbW hbx HT0 hT hkW hR
    go_enter Tryz.func76, Tryz.ntmps76
    go_upto_region 2 with (go_at_call 73; (try rw [hW]); (with_reducible refine (HT.out).mono ?_); rintro e w1 ⟨rfl, h11, h12⟩)
    obtain ⟨w2, hw2⟩ : ∃ w2, w1.alloc (.cells #[.int .i64 t.kind, .string ⟨t.text.toArray⟩, .int .u64 (t.num : Int), .int .i64 t.line, .int .i64 t.col] 40) = w2 := ⟨_, rfl⟩
    have hb2 : Below w1.heap.size w1 w2 := by rw [← hw2]; exact (Below.refl _ w1).alloc (Nat.le_refl _) _
    have x2 : w2.heap[w1.heap.size]? = some (.cells #[.int .i64 t.kind, .string ⟨t.text.toArray⟩, .int .u64 (t.num : Int), .int .i64 t.line, .int .i64 t.col] 40 (0, 0)) := by rw [← hw2]; exact World.alloc_heap_new w1 _
    have hp2 := h11.below hb2
    have hk2 : KG base w w2 := (HK.out.trans h12).trans (KG.of_below hb2 h11.sz)
    have x1 : w2.heap[w.heap.size]? = some (.cells #[.int .i64 0, .string ⟨#[]⟩, .int .u64 0, .int .i64 0, .int .i64 0] 40 (0, 0)) := (hb2.block _ (Nat.lt_of_lt_of_le hlW h12.size)).trans (h12.box HBX.out (by decide) (by decide))
    have hl2 : w1.heap.size < w2.heap.size := (Array.getElem?_eq_some_iff.1 x2).1
    have hl1 : w.heap.size < w1.heap.size := Nat.lt_of_lt_of_le hlW h12.size
    rw [hw2]
    obtain ⟨mv, hbk, _⟩ := hp2.blk
    obtain ⟨p0, p1, p2, p3⟩ := cell_box4 hbk
    have f2 : w2.frozen? ⟨pb, 2, none⟩ = false := frz_box hbk
    have np1 : ¬ (w.heap.size = pb) := by rintro e; rw [← e, x1] at hbk; injection hbk with hbk; injection hbk with _ hbk _; revert hbk; decide
    have np2 : ¬ (w1.heap.size = pb) := by rintro e; rw [← e, x2] at hbk; injection hbk with hbk; injection hbk with _ hbk _; revert hbk; decide
    obtain ⟨q, hq⟩ : ∃ q, s1.dp = q := ⟨_, rfl⟩
    have hq8 : q ≤ 48 := by rw [← hq]; exact hp2.dp
    have HQ := mhid hq
    rw [hq] at p2 HRR
    have ed : IntKind.i64.wrap ((q : Int) + 1) = ((q + 1 : Nat) : Int) := by rw [IntKind.wrap_i64]; omega
    have ed2 : wrap64 ((q : Int) + 1) = (q : Int) + 1 := by unfold wrap64; omega
    have HP2 := mhid hp2
    have HK2 := mhid hk2
    have HX := mhid (And.intro x1 x2)
    clear hw2 hb2 hk2 hp2 hbk h11 h12 HT HK HBX x1 x2 hq hW
    go_upto_region 3 with fail
    obtain ⟨w3, hw3⟩ : ∃ w3, w2.setCell ⟨pb, 2, none⟩ (.int .i64 ((q : Int) + 1)) = w3 := ⟨_, rfl⟩
    rw [hw3]
    have hk3 : KG base w w3 := by rw [← hw3]; exact HK2.out.trans (kg_deep HP2.out _)
    have y1 : w3.heap[w.heap.size]? = some (.cells #[.int .i64 0, .string ⟨#[]⟩, .int .u64 0, .int .i64 0, .int .i64 0] 40 (0, 0)) := by rw [← hw3]; exact (Below.heap_setCell _ _ _ _ np1).trans HX.out.1
    have y2 : w3.heap[w1.heap.size]? = some (.cells #[.int .i64 t.kind, .string ⟨t.text.toArray⟩, .int .u64 (t.num : Int), .int .i64 t.line, .int .i64 t.col] 40 (0, 0)) := by rw [← hw3]; exact (Below.heap_setCell _ _ _ _ np2).trans HX.out.2
    have y3 : w3.cell? ⟨pb, 2, none⟩ = some (.int .i64 ((q : Int) + 1)) := by
      obtain ⟨mv, hbk, _⟩ := HP2.out.blk
      have h9 := setCell_block w2 pb 2 (.int .i64 ((q : Int) + 1)) hbk
      rw [hw3] at h9
      unfold World.cell?
      rw [h9]
      rfl
    obtain ⟨z0, z1, z2, z3, z4⟩ := cell_box5 y2
    have HK3 := mhid hk3
    have hs3 : w.heap.size ≤ w3.heap.size := hk3.size
    clear hk3 p0 p1 p2 p3 f2
    by_cases hd : 48 < q + 1
    · have d1 : decide ((48 : Int) < (q : Int) + 1) = true := decide_eq_true (by omega)
      have HRV : Hid (R = .bad ⟨s.nx, t.line, t.col, 42⟩) := by have h9 := HRR.out; rw [if_pos hd] at h9; exact h9.symm
      have HF : Hid (Calls Tryz.prog 19 #[.agg #[.int .i64 t.kind, .string ⟨t.text.toArray⟩, .int .u64 (t.num : Int), .int .i64 t.line, .int .i64 t.col], .int .i64 42] w3 fun e w' => ∃ b, w3.heap.size ≤ b ∧ e = .returned (.iface 56 (.pointer (some ⟨b, 0, none⟩))) ∧ w'.heap[b]? = some (.cells #[.int .i64 t.line, .int .i64 t.col, .iface 51 (.int .i64 42)] 59 (0, 0)) ∧ Below w3.heap.size w3 w') := faultAt_any t 42 w3
      clear hw3 y1 y2 hd
      go_wp2_with (go_at_call 19; (with_reducible refine (HF.out).mono ?_); rintro e w4 ⟨b4, h41, rfl, h43, h44⟩)
      exact ⟨rfl, by rw [HRV.out]; exact ⟨b4, rfl, by omega, h43, HK3.out.trans (KG.of_below h44 (by omega))⟩⟩
    · have d1 : decide ((48 : Int) < (q : Int) + 1) = false := decide_eq_false (by omega)
      have HRV : Hid (R = .ok ⟨s1.nx, q + 1, s1.md⟩ t) := by have h9 := HRR.out; rw [if_neg hd] at h9; exact h9.symm
      obtain ⟨w5, hw5, r5, k0, k1, k2, k3, k4, _⟩ := row5 y1 (Below.refl 0 w3) (Nat.zero_le _) (.int .i64 t.kind) (.string ⟨t.text.toArray⟩) (.int .u64 (t.num : Int)) (.int .i64 t.line) (.int .i64 t.col)
      have hfin : PW w5 base pb lp lc n X ⟨s1.nx, q + 1, s1.md⟩ ks ∧ KG base w w5 := by
        have h9 := (HP2.out.deep (q + 1) (by omega)).1
        rw [show ((q + 1 : Nat) : Int) = (q : Int) + 1 from rfl, hw3] at h9
        refine ⟨h9.row y1 (by omega) (fun k hk => by rw [← hw5]; exact setRow_other w3 w.heap.size k _ hk) (by rw [← hw5]; simp), ?_⟩
        rw [← hw5]
        exact HK3.out.row (Nat.le_refl _) hsz _
      have HFIN := mhid hfin
      clear hw3 y2 hd hfin
      go_wp2_with (refine wpList_store_row rfl _ _ _ rfl w.heap.size #[.int .i64 t.kind, .string ⟨t.text.toArray⟩, .int .u64 (t.num : Int), .int .i64 t.line, .int .i64 t.col] rfl rfl _ _ y1 (by kernel_rfl) rfl (by kernel_rfl) ?_; rw [hw5]; clear hw5 y1)
      refine bodyPost_ret (by simp [results, Tryz.results76, go_sem, k0, k1, k2, k3, k4]; try rfl) rfl ?_
      rw [HRV.out]
      exact ⟨rfl, HFIN.out.1, HFIN.out.2⟩
set_option maxRecDepth 100000 in
set_option maxHeartbeats 4000000 in
theorem leave_any {w : World} {base pb : Nat} {lp : Option Addr} {lc n : Nat} {X : Nat → Tk} {s : St} {ks : List Value} (h : PW w base pb lp lc n X s ks) (hn : n ≤ 16384) (h0 : 0 < n) (hr : ∀ i, i < n → TkR (X i)) (hg : Sp w) (k : Int) (hk : k ≠ 0) (hd : 1 ≤ s.dp) : Calls Tryz.prog 78 #[.pointer (some ⟨pb, 0, none⟩), .int .i64 k] w (FtU base pb lp lc n X w ks (leave X n k s)) := by
  have HT0 := take_any h hn h0 hr hg k hk
  have hsz := h.sz
  unfold leave
  cases hT : take X n k s with
  | out => exact absurd hT take_ne
  | bad er =>
    rw [hT] at HT0
    have HT : Hid (Calls Tryz.prog 73 #[.pointer (some ⟨pb, 0, none⟩), .int .i64 k] w (PanP base w er)) := HT0
    clear h hr hg HT0 hT
    go_enter Tryz.func78, Tryz.ntmps78
    go_wp2_with (go_at_call 73; (with_reducible refine (HT.out).mono ?_); rintro e w1 ⟨b1, rfl, h11, h12, h13⟩)
    exact ⟨rfl, b1, rfl, h11, h12, h13⟩
  | ok s1 t =>
    rw [hT] at HT0
    obtain ⟨_, _, rfl, rfl⟩ := take_ok hT
    have HT : Hid (Calls Tryz.prog 73 #[.pointer (some ⟨pb, 0, none⟩), .int .i64 k] w (FtT base pb lp lc n X w ks (.ok ⟨s.nx + 1, s.dp, s.md⟩ (X s.nx)))) := HT0
    show Calls Tryz.prog 78 #[.pointer (some ⟨pb, 0, none⟩), .int .i64 k] w (FtU base pb lp lc n X w ks (.ok ⟨s.nx + 1, s.dp - 1, s.md⟩ ()))
    have hd8 := h.dp
    obtain ⟨q, hq⟩ : ∃ q, s.dp = q + 1 := ⟨s.dp - 1, by omega⟩
    rw [hq] at HT ⊢
    rw [hq] at hd8
    clear h hr hg HT0 hT
    have ed2 : wrap64 ((q : Int) + 1 - 1) = (q : Int) := by unfold wrap64; omega
    have ed3 : wrap64 (q : Int) = (q : Int) := by unfold wrap64; omega
    go_enter Tryz.func78, Tryz.ntmps78
    go_wp2_with (go_at_call 73; (with_reducible refine (HT.out).mono ?_); rintro e w1 ⟨rfl, h11, h12⟩; obtain ⟨mv, hbk, _⟩ := h11.blk; obtain ⟨p0, p1, p2, p3⟩ := cell_box4 hbk; have f2 : w1.frozen? ⟨pb, 2, none⟩ = false := frz_box hbk; have H1 := mhid (And.intro h11 h12); clear h11 h12 hbk)
    go_end0
    have h9 := H1.out.1.deep q (by omega)
    exact ⟨rfl, h9.1, H1.out.2.trans h9.2⟩
end Go.Proofs.YtmekcccmnkgodaaGreatDoor
namespace Go.Proofs.YtmekcccmnkgodaaGreatDoor
open Go.ChangeShapes Go.WideShapes Go.ChangeAt Go.RowKit
set_option linter.unusedVariables false
set_option linter.unusedSimpArgs false
theorem step_appG {P : Program} {ops : Array Oper} {o : Oper} {a : Act} {w : World} {K : Act → World → Prop} {Q : Exit → Act → World → Prop} {E : Prop}
    (hg : o.guard = none) (s x : Operand) (t : TypeId) (hop : o.op = Op.call { callee := Callee.builtin Builtin.append, args := #[s, x], argTypes := #[t, t] })
    (base : Nat) (e : TypeId) (i : TypeInfo) (z : Value) (size bytes : Nat) (ht : P.underlying t = some (.slice e)) (hi : P.info? e = some i) (hz : i.zero = some z)
    (hsize : i.size = size) (hby : i.bytes = bytes) (hzs : z.cells.size = size) (hsz : 0 < size)
    (v : Value) (n : Nat) (xs : List Value) (hs : a.eval s = v) (hown : w.ownsRow base e size v n xs)
    (ad : Addr) (m c : Nat) (news : List Value) (hx : a.eval x = .slice (some ad) m c) (hl : news.length = m * size) (hnews : ∀ j u, news[j]? = some u → w.cell? (ad.add j) = some u) (h1 : ∀ u ∈ news, u.oneCell' = true)
    (h63 : n + m ≤ maxLen) (hbytes : (n + m) * bytes ≤ 140737488355328) (hbase : base ≤ w.heap.size)
    (hK : ∀ v' w', w'.ownsRow base e size v' (n + m) (xs ++ news) → w.grownBy w' v.ownBlock → K (a.put o.dst v') w') :
    if Region.wanted o (yielded ops a.tmps) = true then Oper.wp P o a w K Q else E := by
  have hw : Region.wanted o (yielded ops a.tmps) = true := by simp [Region.wanted, hg]
  rw [if_pos hw]
  obtain ⟨v', w', hr, h2, h3, h4, h5⟩ := run_append_own_at (P := P) w base t o.type e i z size bytes ht hi hz hsize hby hzs hsz v n xs hown ad m c news hl hnews h1 h63 hbytes hbase
  unfold Oper.wp execOp
  simp only [hop, resolve, invoke, builtin, Sem.run_bind, Sem.run_pure, Result.andThen_ok, List.map_toArray, List.map_cons, List.map_nil, hs, hx, hr]
  exact hK _ _ h2 h3
theorem seven_new (w : World) (c0 c1 c2 c3 c4 c5 c6 : Value) (t : TypeId) : ∀ j u, [c0, c1, c2, c3, c4, c5, c6][j]? = some u → (w.alloc (.cells #[c0, c1, c2, c3, c4, c5, c6] t)).cell? ((⟨w.heap.size, 0, none⟩ : Addr).add j) = some u := by
  intro j u hj
  rw [addr_add0, Nat.zero_add]
  unfold World.cell?
  rw [World.alloc_heap_new]
  simpa using hj
theorem infoNd : (Tryz.prog.info? 44).map (fun i => (i.zero, i.size, i.bytes)) = some (some (.agg #[.int .i64 0, .string ⟨#[]⟩, .int .u64 0, .int .i64 0, .slice none 0 0, .int .i64 0, .int .i64 0]), 7, 80) := by kernel_rfl
theorem nf_snoc (md : List Nd) (ks : List Value) (d : Nd) (v : Value) (hl : ks.length = md.length) : ∀ j, j < (md.length + 1) * 7 → (cellsF (NF md ks) (md.length * 7) ++ ndC d v).getD j undef = NF (md ++ [d]) (ks ++ [v]) j := by
  intro j hj
  have hc : (cellsF (NF md ks) (md.length * 7)).length = md.length * 7 := cellsF_len _ _
  by_cases h : j < md.length * 7
  · rw [List.getD_eq_getElem?_getD, List.getElem?_append_left (by omega), cellsF_at _ h]
    unfold NF
    have h1 : j / 7 < md.length := by omega
    rw [List.getD_eq_getElem?_getD, List.getD_eq_getElem?_getD, List.getD_eq_getElem?_getD (l := md ++ [d]), List.getD_eq_getElem?_getD (l := ks ++ [v]), List.getElem?_append_left h1, List.getElem?_append_left (by omega)]
    rfl
  · have e : j = md.length * 7 + (j - md.length * 7) := by omega
    have h7 : j - md.length * 7 < 7 := by omega
    rw [List.getD_eq_getElem?_getD, List.getElem?_append_right (by omega), hc, ← List.getD_eq_getElem?_getD]
    unfold NF
    have h1 : j / 7 = md.length := by omega
    have h2 : j % 7 = j - md.length * 7 := by omega
    rw [h1, h2]
    have e1 : (md ++ [d]).getD md.length nT0 = d := by simp [List.getD_eq_getElem?_getD]
    have e2 : (ks ++ [v]).getD md.length undef = v := by rw [← hl]; simp [List.getD_eq_getElem?_getD]
    rw [e1, e2]
/-- a node more -/
theorem PW.added {w w3 w4 : World} {base pb : Nat} {lp : Option Addr} {lc n : Nat} {X : Nat → Tk} {s : St} {ks : List Value} (h : PW w base pb lp lc n X s ks) {mv : Value} (hbk : w.heap[pb]? = some (.cells #[.slice lp n lc, .int .i64 (s.nx : Int), .int .i64 (s.dp : Int), mv] 79 (0, 0))) (hO : Own w base 44 7 mv s.md.length (NF s.md ks))
    (hb3 : Below w.heap.size w w3) {v4 : Value} {d : Nd} {kv : Value} (ho4 : w4.ownsRow base 44 7 v4 (s.md.length + 1) (cellsF (NF s.md ks) (s.md.length * 7) ++ ndC d kv)) (hg : w3.grownBy w4 mv.ownBlock) (hk : Own w base 3 1 kv d.kids.length (kF d.kids)) (hf : Fresh ks kv) :
    PW (w4.setCell ⟨pb, 3, none⟩ v4) base pb lp lc n X ⟨s.nx, s.dp, s.md ++ [d]⟩ (ks ++ [kv]) ∧ KG base w (w4.setCell ⟨pb, 3, none⟩ v4) := by
  have hl := (Array.getElem?_eq_some_iff.1 hbk).1
  have hkeep : ∀ k, k < w.heap.size → (∀ g, mv.ownBlock = some g → k ≠ g) → w4.heap[k]? = w.heap[k]? := fun k hlt hne => (hg.block k (Nat.lt_of_lt_of_le hlt hb3.size) (fun e => hne k e.symm rfl)).trans (hb3.block k hlt)
  have hpb4 : w4.heap[pb]? = some (.cells #[.slice lp n lc, .int .i64 (s.nx : Int), .int .i64 (s.dp : Int), mv] 79 (0, 0)) := (hkeep pb hl fun g hg e => own_ne hO hbk (by decide) g hg e.symm).trans hbk
  have hkeep5 : ∀ k, k ≠ pb → k < w.heap.size → (∀ g, mv.ownBlock = some g → k ≠ g) → (w4.setCell ⟨pb, 3, none⟩ v4).heap[k]? = w.heap[k]? := fun k hk hlt hne => (Below.heap_setCell w4 ⟨pb, 3, none⟩ v4 k hk).trans (hkeep k hlt hne)
  have hsz : w.heap.size ≤ (w4.setCell ⟨pb, 3, none⟩ v4).heap.size := by
    have : (w4.setCell ⟨pb, 3, none⟩ v4).heap.size = w4.heap.size := by simp [World.setCell]
    rw [this]
    exact Nat.le_trans hb3.size hg.size
  -- a row of places is neither the parser nor the nodes' row
  have hint : ∀ {m : Nat} {v : Value} {F : Nat → Value}, Own w base 3 1 v m F → Own (w4.setCell ⟨pb, 3, none⟩ v4) base 3 1 v m F := fun {m v F} hv => hv.far fun k hk => by
    refine hkeep5 k (own_ne hv hbk (by decide) k hk) (own_ltG hv hk).1 fun g hg2 e => ?_
    subst e
    rcases hO.2 with ⟨h9, _⟩ | ⟨g', cap, cur, rfl, _, h5, _⟩
    · rw [h9] at hg2; cases hg2
    · have : g' = k := by simpa [Value.ownBlock] using hg2
      subst this
      exact own_ne hv h5 (by decide) g' hk rfl
  have hO4 : Own w4 base 44 7 v4 (s.md.length + 1) (NF (s.md ++ [d]) (ks ++ [kv])) := (own_of_rowT ho4).congr (nf_snoc s.md ks d kv h.len)
  refine ⟨⟨⟨v4, ?_, ?_⟩, ?_, by simp [h.len], ?_, ?_, h.pl, h.nx, h.dp, Nat.le_trans h.sz hsz⟩, ?_⟩
  · rw [setCell_block w4 pb 3 _ hpb4]
    rfl
  · have : (s.md ++ [d]).length = s.md.length + 1 := by simp
    rw [this]
    exact hO4.far fun k hk => Below.heap_setCell w4 ⟨pb, 3, none⟩ v4 k (own_ne hO4 hpb4 (by decide) k hk)
  · rcases h.tx with h9 | ⟨b, o, e, hlb, hc⟩
    · exact .inl h9
    · refine .inr ⟨b, o, e, hlb, fun i r hi hr => (World.cell?_of_block (a := ⟨b, o + i * 5 + r, none⟩) (hkeep5 b (by have := h.pl; omega) (Nat.lt_of_lt_of_le hlb h.sz) fun g hg2 e => ?_)).trans (hc i r hi hr)⟩
      subst e
      have := (own_ltG hO hg2).2
      omega
  · intro i d' v hd hv
    by_cases hi : i < s.md.length
    · rw [List.getElem?_append_left hi] at hd
      rw [List.getElem?_append_left (by rw [h.len]; exact hi)] at hv
      exact hint (h.kid i d' v hd hv)
    · have e : i = s.md.length := by
        have := (List.getElem?_eq_some_iff.1 hd).1
        simp at this
        omega
      subst e
      rw [List.getElem?_append_right (Nat.le_refl _)] at hd
      rw [List.getElem?_append_right (by rw [h.len]; exact Nat.le_refl _)] at hv
      simp at hd
      simp [h.len] at hv
      subst hd hv
      exact hint hk
  · intro i j v u b hij hv hu hvb hub
    have hj := (List.getElem?_eq_some_iff.1 hu).1
    simp at hj
    rw [List.getElem?_append_left (by omega)] at hv
    by_cases hj2 : j < ks.length
    · rw [List.getElem?_append_left hj2] at hu
      exact h.apt i j v u b hij hv hu hvb hub
    · have e : j = ks.length := by omega
      subst e
      rw [List.getElem?_append_right (Nat.le_refl _)] at hu
      simp at hu
      subst hu
      exact hf i v b hv hvb hub
  · refine ⟨⟨(show w4.os = w.os from hg.os.trans hb3.os), (show w4.tape = w.tape from hg.tape.trans hb3.tape), (show w4.output = w.output from hg.output.trans hb3.output), hsz, fun k hk => hkeep5 k (by have := h.pl; omega) (Nat.lt_of_lt_of_le hk h.sz) fun g hg2 e => by subst e; have := (own_ltG hO hg2).2; omega⟩, fun k cs ty fz hk2 h1 h2 => ?_⟩
    refine hkeep5 k ?_ (Array.getElem?_eq_some_iff.1 hk2).1 fun g hg2 e => ?_
    · rintro rfl
      rw [hbk] at hk2
      injection hk2 with hk2
      injection hk2 with _ hk2 _
      exact h1 hk2.symm
    · subst e
      exact own_ne hO hk2 (fun e => h2 e.symm) k hg2 rfl
theorem Gw.add {W : World} {a b : List Value} (h : Gw W a b) {v : Value} (hv : ∀ c, v.ownBlock = some c → W.heap.size ≤ c) : Gw W a (b ++ [v]) := by
  obtain ⟨t, rfl⟩ := h.pre
  refine ⟨⟨t ++ [v], by simp⟩, fun i u c hi hu hc => ?_⟩
  by_cases hi2 : i < (a ++ t).length
  · rw [List.getElem?_append_left hi2] at hu
    exact h.new i u c hi hu hc
  · have := (List.getElem?_eq_some_iff.1 hu).1
    rw [List.getElem?_append_right (by omega)] at hu
    have e : i - (a ++ t).length = 0 := by simp at this hi2 ⊢; omega
    rw [e] at hu
    simp at hu
    subst hu
    exact hv c hc
end Go.Proofs.YtmekcccmnkgodaaGreatDoor
namespace Go.Proofs.YtmekcccmnkgodaaGreatDoor
open Go.ChangeShapes Go.WideShapes Go.ChangeAt Go.RowKit
set_option linter.unusedVariables false
set_option linter.unusedSimpArgs false
/-- what add does -/
def FtA (base pb : Nat) (lp : Option Addr) (lc n : Nat) (X : Nat → Tk) (W : World) (s : St) (ks : List Value) (d : Nd) (kv : Value) (e : Ending) (w' : World) : Prop := e = .returned (.int .i64 (s.md.length : Int)) ∧ PW w' base pb lp lc n X ⟨s.nx, s.dp, s.md ++ [d]⟩ (ks ++ [kv]) ∧ KG base W w'
set_option maxRecDepth 100000 in
set_option maxHeartbeats 4000000 in
theorem add_any {w : World} {base pb : Nat} {lp : Option Addr} {lc n : Nat} {X : Nat → Tk} {s : St} {ks : List Value} (h : PW w base pb lp lc n X s ks) (t : Tk) (kind : Int) (name : Bs) (num : Nat) (op : Int) (kids : List Nat) (kv : Value) (hk : Own w base 3 1 kv kids.length (kF kids)) (hf : Fresh ks kv) (hm : s.md.length ≤ 20000) :
    Calls Tryz.prog 36 #[.pointer (some ⟨pb, 0, none⟩), .agg (tkA t), .agg #[.int .i64 kind, .string ⟨name.toArray⟩, .int .u64 (num : Int), .int .i64 op, kv, .int .i64 0, .int .i64 0]] w (FtA base pb lp lc n X w s ks ⟨kind, name, num, op, kids, t.line, t.col⟩ kv) := by
  obtain ⟨mv, hbk, hO⟩ := h.blk
  obtain ⟨i0, hi0, hz0, hz1, hz2⟩ := info_parts infoNd
  have hl := (Array.getElem?_eq_some_iff.1 hbk).1
  obtain ⟨m, hm9⟩ : ∃ m, s.md.length = m := ⟨_, rfl⟩
  have HM := mhid hm9
  rw [hm9] at hm hO
  have HH := mhid (And.intro h (And.intro hk hf))
  have HBK := mhid hbk
  have HO := mhid hO
  have hsz := h.sz
  have hkv1 : Hid (kv.oneCell' = true) := by obtain ⟨pq, cq, e, _⟩ := own_form' hk; rw [e]; rfl
  unfold tkA
  clear h hk hf hbk hO hm9
  go_enter Tryz.func36, Tryz.ntmps36
  go_upto_region 1 with fail
  go_region
  obtain ⟨w2, hw2⟩ : ∃ w2, ((w.alloc (.cells #[.int .i64 t.kind, .string ⟨t.text.toArray⟩, .int .u64 (t.num : Int), .int .i64 t.line, .int .i64 t.col] 40)).alloc (.cells #[.int .i64 kind, .string ⟨name.toArray⟩, .int .u64 (num : Int), .int .i64 op, kv, .int .i64 t.line, .int .i64 t.col] 44)).drew = w2 := ⟨_, rfl⟩
  have hb2 : Below w.heap.size w w2 := by rw [← hw2]; exact (((Below.refl _ w).alloc (Nat.le_refl _) _).alloc (by simp) _).drew
  have x2 : w2.heap[w.heap.size + 1]? = some (.cells #[.int .i64 kind, .string ⟨name.toArray⟩, .int .u64 (num : Int), .int .i64 op, kv, .int .i64 t.line, .int .i64 t.col] 44 (0, 0)) := by
    rw [← hw2]
    have h9 := World.alloc_heap_new (w.alloc (.cells #[.int .i64 t.kind, .string ⟨t.text.toArray⟩, .int .u64 (t.num : Int), .int .i64 t.line, .int .i64 t.col] 40)) (.cells #[.int .i64 kind, .string ⟨name.toArray⟩, .int .u64 (num : Int), .int .i64 op, kv, .int .i64 t.line, .int .i64 t.col] 44 (0, 0))
    rw [World.size_alloc] at h9
    exact h9
  rw [hw2]
  have hp2 := (hb2.block pb hl).trans HBK.out
  obtain ⟨p0, p1, p2, p3⟩ := cell_box4 hp2
  have f3 : w2.frozen? ⟨pb, 3, none⟩ = false := frz_box hp2
  have y : ∀ j u, [Value.int .i64 kind, .string ⟨name.toArray⟩, .int .u64 (num : Int), .int .i64 op, kv, .int .i64 t.line, .int .i64 t.col][j]? = some u → w2.cell? ⟨w.heap.size + 1, j, none⟩ = some u := fun j u hj => by
    unfold World.cell?
    rw [x2]
    simpa using hj
  have y0 := y 0 _ rfl
  have y1 := y 1 _ rfl
  have y2 := y 2 _ rfl
  have y3 := y 3 _ rfl
  have y4 := y 4 _ rfl
  have y5 := y 5 _ rfl
  have y6 := y 6 _ rfl
  have HB2 := mhid hb2
  have hpl2 : pb < w2.heap.size := Nat.lt_of_lt_of_le hl hb2.size
  have hx1 : m + 1 ≤ maxLen := by unfold maxLen; omega
  have hx2 : (m + 1) * 80 ≤ 140737488355328 := by omega
  have hbs2 : base ≤ w2.heap.size := Nat.le_trans hsz hb2.size
  have HBS : Hid (base ≤ (w2.drew.alloc (.cells #[.int .i64 kind, .string ⟨name.toArray⟩, .int .u64 (num : Int), .int .i64 op, kv, .int .i64 t.line, .int .i64 t.col] 44)).heap.size) := by rw [World.size_alloc]; exact Nat.le_succ_of_le hbs2
  have HB3 : Hid (Below w.heap.size w (w2.drew.alloc (.cells #[.int .i64 kind, .string ⟨name.toArray⟩, .int .u64 (num : Int), .int .i64 op, kv, .int .i64 t.line, .int .i64 t.col] 44))) := hb2.drew.alloc hb2.size _
  have HO3 : Hid ((w2.drew.alloc (.cells #[.int .i64 kind, .string ⟨name.toArray⟩, .int .u64 (num : Int), .int .i64 op, kv, .int .i64 t.line, .int .i64 t.col] 44)).ownsRow base 44 7 mv m (cellsF (NF s.md ks) (m * 7))) := own_more' HO.out HB3.out
  have HNE : Hid (∀ g, mv.ownBlock = some g → pb ≠ g) := fun g hg e => own_ne HO.out HBK.out (by decide) g hg e.symm
  have np : ¬ (w2.heap.size = pb) := by omega
  clear hw2 hb2 x2 hp2 y
  go_upto_region 2 with fail
  go_region_law (refine step_appG rfl (.tmp 17) (.tmp 19) 22 rfl base 44 i0 _ 7 80 Tryz.underlying22 hi0 hz0 hz1 hz2 rfl (by decide) mv m (cellsF (NF s.md ks) (m * 7)) (by simp [Act.eval, Act.put]) HO3.out ⟨w2.heap.size, 0, none⟩ 1 1 [.int .i64 kind, .string ⟨name.toArray⟩, .int .u64 (num : Int), .int .i64 op, kv, .int .i64 t.line, .int .i64 t.col] (by simp [Act.eval, Act.put]) rfl (seven_new w2.drew _ _ _ _ _ _ _ _) (by simp only [List.mem_cons, List.not_mem_nil, or_false]; rintro u (rfl | rfl | rfl | rfl | rfl | rfl | rfl) <;> first | rfl | exact hkv1.out) hx1 hx2 HBS.out ?_; intro v4 w4 ho4 hg4; obtain ⟨q4, c4, e4, _⟩ := own_form' (own_of_rowT ho4); subst e4; have z4 : w4.heap[pb]? = (w2.drew.alloc (.cells #[.int .i64 kind, .string ⟨name.toArray⟩, .int .u64 (num : Int), .int .i64 op, kv, .int .i64 t.line, .int .i64 t.col] 44)).heap[pb]? := hg4.block pb (Nat.lt_of_lt_of_le hl HB3.out.size) (fun e => HNE.out pb e.symm rfl); have z5 := z4.trans ((HB3.out.block pb hl).trans HBK.out); obtain ⟨r0, r1, r2, r3⟩ := cell_box4 z5; have r4 : w4.frozen? ⟨pb, 3, none⟩ = false := frz_box z5; have H4 := mhid (And.intro ho4 hg4); clear z4 z5 ho4 hg4)
  all_goals
    have hfin := PW.added HH.out.1 HBK.out (by rw [HM.out]; exact HO.out) HB3.out (v4 := .slice q4 (m + 1) c4) (d := ⟨kind, name, num, op, kids, t.line, t.col⟩) (kv := kv) (by rw [HM.out]; exact H4.out.1) H4.out.2 HH.out.2.1 HH.out.2.2
    obtain ⟨w5, hw5⟩ : ∃ w5, w4.setCell ⟨pb, 3, none⟩ (.slice q4 (m + 1) c4) = w5 := ⟨_, rfl⟩
    rw [hw5] at hfin ⊢
    have t3 : w5.cell? ⟨pb, 3, none⟩ = some (.slice q4 (m + 1) c4) := by rw [← hw5]; simp [World.cell?_setCell_same, r3]
    have HFIN := mhid hfin
    have ew : wrap64 ((m : Int) + 1 - 1) = (m : Int) := by unfold wrap64; omega
    have ew2 : wrap64 (m : Int) = (m : Int) := by unfold wrap64; omega
    clear hfin hw5 r0 r1 r2 r3 r4 p0 p1 p2 p3 f3 y0 y1 y2 y3 y4 y5 y6
    go_wp2
    go_ret
    refine ⟨?_, HFIN.out.1, HFIN.out.2⟩
    rw [HM.out]
    rfl
set_option maxRecDepth 100000 in
theorem isUnary_any (k : Int) (w : World) : Calls Tryz.prog 114 #[.int .i64 k] w fun e w' => e = .returned (.bool (isUn k)) ∧ w' = w := by
  unfold isUn
  by_cases h1 : k = 74
  · subst h1
    go_enter Tryz.func114, Tryz.ntmps114
    go_wp2
    go_ret
    exact ⟨rfl, rfl⟩
  · by_cases h2 : k = 78
    · subst h2
      go_enter Tryz.func114, Tryz.ntmps114
      go_wp2
      go_ret
      exact ⟨rfl, rfl⟩
    · by_cases h3 : k = 79
      · subst h3
        go_enter Tryz.func114, Tryz.ntmps114
        go_wp2
        go_ret
        exact ⟨rfl, rfl⟩
      · rw [decide_eq_false h1, decide_eq_false h2, decide_eq_false h3]
        go_enter Tryz.func114, Tryz.ntmps114
        go_wp2
        go_ret
        refine ⟨?_, rfl⟩
        show Ending.returned (.bool (k == 74 || k == 78 || k == 79)) = _
        simp [h1, h2, h3]
set_option maxRecDepth 100000 in
set_option maxHeartbeats 4000000 in
theorem binds_any (k : Int) (w : World) : Calls Tryz.prog 109 #[.int .i64 k] w fun e w' => e = .returned (.int .i64 (bindsP k : Int)) ∧ w' = w := by
  by_cases h0 : 60 ≤ k ∧ k ≤ 77
  · have hc : k = 60 ∨ k = 61 ∨ k = 62 ∨ k = 63 ∨ k = 64 ∨ k = 65 ∨ k = 66 ∨ k = 67 ∨ k = 68 ∨ k = 69 ∨ k = 70 ∨ k = 71 ∨ k = 72 ∨ k = 73 ∨ k = 74 ∨ k = 75 ∨ k = 76 ∨ k = 77 := by omega
    clear h0
    rcases hc with rfl | rfl | rfl | rfl | rfl | rfl | rfl | rfl | rfl | rfl | rfl | rfl | rfl | rfl | rfl | rfl | rfl | rfl
    all_goals
      go_enter Tryz.func109, Tryz.ntmps109
      go_wp2
      go_ret
      exact ⟨rfl, rfl⟩
  · have e : bindsP k = 0 := by
      unfold bindsP
      rw [if_neg (by omega), if_neg (by omega), if_neg (by omega), if_neg (by omega), if_neg (by omega), if_neg (by omega), if_neg (by omega), if_neg (by omega), if_neg (by omega)]
    rw [e]
    have n60 : ¬ k = 60 := by omega
    have n61 : ¬ k = 61 := by omega
    have n62 : ¬ k = 62 := by omega
    have n63 : ¬ k = 63 := by omega
    have n64 : ¬ k = 64 := by omega
    have n65 : ¬ k = 65 := by omega
    have n66 : ¬ k = 66 := by omega
    have n67 : ¬ k = 67 := by omega
    have n68 : ¬ k = 68 := by omega
    have n69 : ¬ k = 69 := by omega
    have n70 : ¬ k = 70 := by omega
    have n71 : ¬ k = 71 := by omega
    have n72 : ¬ k = 72 := by omega
    have n73 : ¬ k = 73 := by omega
    have n74 : ¬ k = 74 := by omega
    have n75 : ¬ k = 75 := by omega
    have n76 : ¬ k = 76 := by omega
    have n77 : ¬ k = 77 := by omega
    clear h0 e
    go_enter Tryz.func109, Tryz.ntmps109
    go_wp2
    go_ret
    exact ⟨rfl, rfl⟩
end Go.Proofs.YtmekcccmnkgodaaGreatDoor
