import Derived.Test.YtlklolmhaiaaiaaKYR9
namespace Go.Proofs.Ytlklolmhaiaaiaa
open Go.ChangeShapes Go.WideShapes Go.ChangeAt Go.RowKit
set_option linter.unusedVariables false
set_option linter.unusedSimpArgs false

/-! ### the program's queue beside the document's -/
/-- all blocks stay but those of events -/
structure KE (W W' : World) : Prop where
  os : W'.os = W.os
  tape : W'.tape = W.tape
  output : W'.output = W.output
  size : W.heap.size ≤ W'.heap.size
  blk : ∀ (k : Nat) (v : Array Value) (t : TypeId), W.heap[k]? = some (Obj.cells v t (0, 0)) → t ≠ 64 → W'.heap[k]? = W.heap[k]?
theorem KE.below {W W' : World} (hb : Below W.heap.size W W') : KE W W' := ⟨hb.os, hb.tape, hb.output, hb.size, fun k v t hk _ => hb.block k (lt_of_block hk)⟩
theorem KE.trans {a b c : World} (h : KE a b) (h' : KE b c) : KE a c := ⟨h'.os.trans h.os, h'.tape.trans h.tape, h'.output.trans h.output, Nat.le_trans h.size h'.size, fun k v t hk ht => (h'.blk k v t ((h.blk k v t hk ht).trans hk) ht).trans (h.blk k v t hk ht)⟩
theorem KE.put6 {W W' : World} {b : Nat} {cs : Array Value} (he : W.heap[b]? = some (.cells cs 64 (0, 0))) (p2 : ∀ k, k ≠ b → W'.heap[k]? = W.heap[k]?) (p3 : ∀ B w0, Below B w0 W → B ≤ b → Below B w0 W') : KE W W' := by
  have hbF := p3 0 _ (Below.refl 0 _) (Nat.zero_le _)
  exact ⟨hbF.os, hbF.tape, hbF.output, hbF.size, fun k v t hk ht => p2 k fun e => by
    subst e
    rw [hk] at he
    injection he with he
    injection he with _ he
    exact ht he⟩
theorem QW.typ {W : World} {base qb g c n : Nat} {A : Ar} {f r s m k : Int} (h : QW W base qb g c n A f r s m k) : (∃ v, W.heap[qb]? = some (Obj.cells v 58 (0, 0))) ∧ ∃ v, W.heap[g]? = some (Obj.cells v 67 (0, 0)) := by
  obtain ⟨cur, h1, _⟩ := h.box.block
  obtain ⟨cur2, h2, _⟩ := h.row.block
  exact ⟨⟨cur, h1⟩, cur2, h2⟩
theorem typ_absurd {W : World} {k : Nat} {v v' : Array Value} {t t' : TypeId} (h : W.heap[k]? = some (Obj.cells v t (0, 0))) (h' : W.heap[k]? = some (Obj.cells v' t' (0, 0))) : t = t' := by
  rw [h] at h'
  injection h' with h'
  injection h' with _ h'
/-- the program's calls leave the document's queue -/
theorem RQ.ch {W W' : World} {base qb g c n : Nat} {A : Ar} {f r s m k : Int} {qr : Nat} {E : Nat → Ev} {t : Tr} {most sum : Int} (h : RQ W qr E t most sum) (hq : QW W base qb g c n A f r s m k) (hc : Ch (S2 qb g) W W') : RQ W' qr E t most sum := by
  obtain ⟨⟨v1, h1⟩, v2, h2⟩ := hq.typ
  obtain ⟨p, hb, hT⟩ := h
  refine RQ.keep ⟨p, hb, hT⟩ (hc.block qr (lt_of_block hb) ?_) fun k v hk => hc.block k (lt_of_block hk) ?_
  · rintro (e | e)
    · subst e; exact absurd (typ_absurd hb h1) (by decide)
    · subst e; exact absurd (typ_absurd hb h2) (by decide)
  · rintro (e | e)
    · subst e; exact absurd (typ_absurd hk h1) (by decide)
    · subst e; exact absurd (typ_absurd hk h2) (by decide)
/-- the document's calls leave the program's queue -/
theorem QI.ch1 {W W' : World} {base qb g c n : Nat} {A : Ar} {t : Tr} {fl : List Nat} {root : Nat} {room work : Int} {qr : Nat} {E : Nat → Ev} {t' : Tr} {most sum : Int} (h : QI W base qb g c n A t fl root room work) (hr : RQ W qr E t' most sum) (hc : Ch (S1 qr) W W') : QI W' base qb g c n A t fl root room work := by
  obtain ⟨⟨v1, h1⟩, v2, h2⟩ := h.q.typ
  obtain ⟨p, hb, hT⟩ := hr
  exact ⟨h.q.keep hc (fun e => by have e : qb = qr := e; subst e; exact absurd (typ_absurd hb h1) (by decide)) (fun e => by have e : g = qr := e; subst e; exact absurd (typ_absurd hb h2) (by decide)), h.ti, h.fr, h.nd, h.inr, h.cnt, h.z, h.nr, h.rm, h.srt, h.wk⟩
theorem QI.ke {W W' : World} {base qb g c n : Nat} {A : Ar} {t : Tr} {fl : List Nat} {root : Nat} {room work : Int} (h : QI W base qb g c n A t fl root room work) (hk : KE W W') : QI W' base qb g c n A t fl root room work := by
  obtain ⟨⟨v1, h1⟩, v2, h2⟩ := h.q.typ
  exact ⟨⟨h.q.box.far fun k e => by cases e; exact hk.blk _ _ _ h1 (by decide), h.q.row.far fun k e => by cases e; exact hk.blk _ _ _ h2 (by decide), h.q.ne⟩, h.ti, h.fr, h.nd, h.inr, h.cnt, h.z, h.nr, h.rm, h.srt, h.wk⟩
theorem RQ.ke {W W' : World} {qr : Nat} {E : Nat → Ev} {t : Tr} {most sum : Int} (h : RQ W qr E t most sum) (hk : KE W W') : RQ W' qr E t most sum := by
  obtain ⟨p, hb, hT⟩ := h
  exact RQ.keep ⟨p, hb, hT⟩ (hk.blk _ _ _ hb (by decide)) fun k v h9 => hk.blk _ _ _ h9 (by decide)
def PR (W : World) (base qb g qr : Nat) (room wb : Int) : Prop := ∃ (c n : Nat) (A : Ar) (t : Tr) (fl : List Nat) (root : Nat) (work : Int), QI W base qb g c n A t fl root room work ∧ RQ W qr A.E t room work ∧ work ≤ wb
theorem PR.ke {W W' : World} {base qb g qr : Nat} {room wb : Int} (h : PR W base qb g qr room wb) (hk : KE W W') : PR W' base qb g qr room wb := by
  obtain ⟨c, n, A, t, fl, root, work, h1, h2, h3⟩ := h
  exact ⟨c, n, A, t, fl, root, work, h1.ke hk, h2.ke hk, h3⟩
theorem PR.up {W : World} {base qb g qr : Nat} {room wb wb' : Int} (h : PR W base qb g qr room wb) (hw : wb ≤ wb') : PR W base qb g qr room wb' := by
  obtain ⟨c, n, A, t, fl, root, work, h1, h2, h3⟩ := h
  exact ⟨c, n, A, t, fl, root, work, h1, h2, by omega⟩
theorem PR.lt {W : World} {base qb g qr : Nat} {room wb : Int} (h : PR W base qb g qr room wb) : qb < W.heap.size ∧ g < W.heap.size ∧ qr < W.heap.size := by
  obtain ⟨c, n, A, t, fl, root, work, h1, h2, h3⟩ := h
  exact ⟨h1.q.lt.1.1, h1.q.lt.2.1, h2.lt⟩
/-- what an answer of an event and an error is beside the document's -/
def Pair (fp fr : Nat) (args : List Value) (base qb g qr : Nat) (room wb : Int) (W : World) : Prop := Calls Try.prog fp (#[.pointer (some ⟨qb, 0, none⟩)] ++ args.toArray) W fun e W1 => ∃ v code, e = .returned (.tuple #[evV v, .int .i64 code]) ∧ Ch (S2 qb g) W W1 ∧ ∀ W2, KE W1 W2 → Calls Try.prog fr (#[.pointer (some ⟨qr, 0, none⟩)] ++ args.toArray) W2 fun e2 W3 => e2 = .returned (.tuple #[evV v, .int .i64 code]) ∧ PR W3 base qb g qr room (wb + 16384) ∧ Ch (S1 qr) W2 W3
theorem QI.srtE {W : World} {base qb g c n : Nat} {A : Ar} {t : Tr} {fl : List Nat} {root : Nat} {room work : Int} (h : QI W base qb g c n A t fl root room work) : Srt A.E t := h.srt
theorem RQ.ps {W : World} {qr : Nat} {E E' : Nat → Ev} {t : Tr} {most sum : Int} (h : RQ W qr E t most sum) (he : t.ps.map E' = t.ps.map E) : RQ W qr E' t most sum := h.congr fun x hx => by
  obtain ⟨i, hi, rfl⟩ := List.mem_iff_getElem.1 hx
  have := congrArg (fun l => l[i]?) he
  simpa [List.getElem?_map, List.getElem?_eq_getElem hi] using this
theorem min_pair {base qb g qr : Nat} {room wb : Int} (W : World) (h : PR W base qb g qr room wb) (hwb : wb ≤ 4611686018427000000 - 16384) : Pair 32 62 [] base qb g qr room wb W := by
  obtain ⟨c, n, A, t, fl, root, work, h1, h2, h3⟩ := h
  have hwk := h1.wk
  by_cases ht : t = .nil
  · subst ht
    refine (min_none base qb g c n A fl root room work W h1).mono ?_
    rintro e W1 ⟨rfl, hb⟩
    refine ⟨ev0, 82, rfl, Ch.below hb, fun W2 hk => (rmin_none qr A.E room work W2 ((h2.later hb).ke hk)).mono ?_⟩
    rintro e W3 ⟨rfl, hr, hC⟩
    exact ⟨rfl, ⟨c, n, A, .nil, fl, root, work, (⟨h1.q.later hb, h1.ti, h1.fr, h1.nd, h1.inr, h1.cnt, h1.z, h1.nr, h1.rm, h1.srt, h1.wk⟩ : QI W1 base qb g c n A .nil fl root room work).ke hk |>.ch1 ((h2.later hb).ke hk) hC, hr, by omega⟩, hC⟩
  · have hk9 : (openT sdL t).k ≤ 8192 := by have := openT_k _ side_sdL t.size t (Nat.le_refl _); have := h1.n1; omega
    refine (min_any base qb g c n A t fl root room work W h1 ht (by omega)).mono ?_
    rintro e W1 ⟨A', rfl, hq, hps, hE, hC1⟩
    have hr1 := h2.ch h1.q hC1
    refine ⟨_, 0, rfl, hC1, fun W2 hk => (rmin_yes qr A.E t room work W2 (hr1.ke hk) ht h1.srt h1.n1.2.2 h1.neT ⟨hwk, by omega⟩).mono ?_⟩
    rintro e W3 ⟨rfl, hr, hC⟩
    exact ⟨rfl, ⟨c, n, A', _, fl, _, _, (hq.ke hk).ch1 (hr1.ke hk) hC, by rw [hE]; exact hr, by omega⟩, hC⟩
theorem pop_pair {base qb g qr : Nat} {room wb : Int} (W : World) (h : PR W base qb g qr room wb) (hwb : wb ≤ 4611686018427000000 - 16384) : Pair 34 63 [] base qb g qr room wb W := by
  obtain ⟨c, n, A, t, fl, root, work, h1, h2, h3⟩ := h
  have hwk := h1.wk
  by_cases ht : t = .nil
  · subst ht
    refine (pop_none base qb g c n A fl root room work W h1).mono ?_
    rintro e W1 ⟨rfl, hb⟩
    refine ⟨ev0, 82, rfl, Ch.below hb, fun W2 hk => (rpop_none qr A.E room work W2 ((h2.later hb).ke hk)).mono ?_⟩
    rintro e W3 ⟨rfl, hr, hC⟩
    exact ⟨rfl, ⟨c, n, A, .nil, fl, root, work, (⟨h1.q.later hb, h1.ti, h1.fr, h1.nd, h1.inr, h1.cnt, h1.z, h1.nr, h1.rm, h1.srt, h1.wk⟩ : QI W1 base qb g c n A .nil fl root room work).ke hk |>.ch1 ((h2.later hb).ke hk) hC, hr, by omega⟩, hC⟩
  · have hk9 : (openT sdL t).k ≤ 8192 := by have := openT_k _ side_sdL t.size t (Nat.le_refl _); have := h1.n1; omega
    refine (pop_anyX base qb g c n A t fl root room work W h1 ht (by omega)).mono ?_
    rintro e W1 ⟨A', fl', root', rfl, hq, hps, hE, hC1⟩
    have hr1 := h2.ch h1.q hC1
    refine ⟨_, 0, rfl, hC1, fun W2 hk => (rpop_yes qr A.E t room work W2 (hr1.ke hk) ht h1.srt h1.n1.2.2 h1.neT ⟨hwk, by omega⟩).mono ?_⟩
    rintro e W3 ⟨rfl, hr, hC⟩
    exact ⟨rfl, ⟨c, n, A', _, fl', _, _, (hq.ke hk).ch1 (hr1.ke hk) hC, hr.ps hE, by omega⟩, hC⟩
theorem find_pair {base qb g qr : Nat} {room wb : Int} (kt ks kq : Int) (W : World) (h : PR W base qb g qr room wb) (hwb : wb ≤ 4611686018427000000 - 16384) : Pair 35 64 [.agg #[.int .u64 kt, .int .i64 ks, .int .u64 kq]] base qb g qr room wb W := by
  obtain ⟨c, n, A, t, fl, root, work, h1, h2, h3⟩ := h
  have hwk := h1.wk
  have hk9 : (openT (sdK kt ks kq A.E) t).k ≤ 8192 := by have := openT_k _ (side_sdK kt ks kq A.E) t.size t (Nat.le_refl _); have := h1.n1; omega
  by_cases hm : (openT (sdK kt ks kq A.E) t).m = 0
  · refine (find_noX base qb g c n A t fl root room work kt ks kq W h1 (by omega) hm).mono ?_
    rintro e W1 ⟨A', j, rj, k', rfl, hq, hk', hps, hE, hC1, rfl, rfl⟩
    have hr1 := h2.ch h1.q hC1
    refine ⟨_, 83, rfl, hC1, fun W2 hk => (rfind_no qr A.E t room work kt ks kq W2 (hr1.ke hk) h1.srt h1.n1.2.2 h1.neT ⟨hwk, by omega⟩ hm).mono ?_⟩
    rintro e W3 ⟨rfl, hr, hC⟩
    exact ⟨rfl, ⟨c, n, A', _, fl, _, _, (hq.ke hk).ch1 (hr1.ke hk) hC, by rw [hE]; exact hr, by omega⟩, hC⟩
  · refine (find_yes base qb g c n A t fl root room work kt ks kq W h1 (by omega) hm).mono ?_
    rintro e W1 ⟨A', rfl, hq, hE, hC1⟩
    have hr1 := h2.ch h1.q hC1
    refine ⟨_, 0, rfl, hC1, fun W2 hk => (rfind_yes qr A.E t room work kt ks kq W2 (hr1.ke hk) h1.srt h1.n1.2.2 h1.neT ⟨hwk, by omega⟩ hm).mono ?_⟩
    rintro e W3 ⟨rfl, hr, hC⟩
    exact ⟨rfl, ⟨c, n, A', _, fl, _, _, (hq.ke hk).ch1 (hr1.ke hk) hC, by rw [hE]; exact hr, by omega⟩, hC⟩
theorem remove_pair {base qb g qr : Nat} {room wb : Int} (kt ks kq : Int) (W : World) (h : PR W base qb g qr room wb) (hwb : wb ≤ 4611686018427000000 - 16384) : Pair 36 65 [.agg #[.int .u64 kt, .int .i64 ks, .int .u64 kq]] base qb g qr room wb W := by
  obtain ⟨c, n, A, t, fl, root, work, h1, h2, h3⟩ := h
  have hwk := h1.wk
  have hk9 : (openT (sdK kt ks kq A.E) t).k ≤ 8192 := by have := openT_k _ (side_sdK kt ks kq A.E) t.size t (Nat.le_refl _); have := h1.n1; omega
  by_cases hm : (openT (sdK kt ks kq A.E) t).m = 0
  · refine (remove_noX base qb g c n A t fl root room work kt ks kq W h1 (by omega) hm).mono ?_
    rintro e W1 ⟨A', j, rj, k', rfl, hq, hk', hps, hE, hC1, rfl, rfl⟩
    have hr1 := h2.ch h1.q hC1
    refine ⟨_, 83, rfl, hC1, fun W2 hk => (rremove_no qr A.E t room work kt ks kq W2 (hr1.ke hk) h1.srt h1.n1.2.2 h1.neT ⟨hwk, by omega⟩ hm).mono ?_⟩
    rintro e W3 ⟨rfl, hr, hC⟩
    exact ⟨rfl, ⟨c, n, A', _, fl, _, _, (hq.ke hk).ch1 (hr1.ke hk) hC, by rw [hE]; exact hr, by omega⟩, hC⟩
  · refine (remove_yesX base qb g c n A t fl root room work kt ks kq W h1 (by omega) hm).mono ?_
    rintro e W1 ⟨A', j, fl', rj, k', rfl, hq, hk', hps, hE, hC1, rfl, rfl⟩
    have hr1 := h2.ch h1.q hC1
    refine ⟨_, 0, rfl, hC1, fun W2 hk => (rremove_yes qr A.E t room work kt ks kq W2 (hr1.ke hk) h1.srt h1.n1.2.2 h1.neT ⟨hwk, by omega⟩ hm).mono ?_⟩
    rintro e W3 ⟨rfl, hr, hC⟩
    exact ⟨rfl, ⟨c, n, A', _, fl', _, _, (hq.ke hk).ch1 (hr1.ke hk) hC, hr.ps hE, by omega⟩, hC⟩
end Go.Proofs.Ytlklolmhaiaaiaa
