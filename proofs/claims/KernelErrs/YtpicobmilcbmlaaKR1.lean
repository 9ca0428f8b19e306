import Derived.Test.YtpicobmilcbmlaaSV5
namespace Go.Proofs.Ytpicobmilcbmlaa
open Go.ChangeShapes Go.WideShapes Go.ChangeAt Go.RowKit
set_option linter.unusedVariables false
set_option linter.unusedSimpArgs false

theorem cells3p {W : World} {b : Nat} {c0 c1 c2 : Value} {t : TypeId} (h : W.heap[b]? = some (.cells #[c0, c1, c2] t (0, 0))) : W.cell? ⟨b, 0, none⟩ = some c0 ∧ W.cell? ⟨b, 1, none⟩ = some c1 ∧ W.cell? ⟨b, 2, none⟩ = some c2 := by
  refine ⟨?_, ?_, ?_⟩
  all_goals (unfold World.cell?; rw [h]; rfl)
theorem Kb.mono {S S' : Nat → Prop} {W W' : World} (h : Kb S W W') (hs : ∀ k, S k → S' k) : Kb S' W W' := ⟨h.size, fun k hk h9 => h.block k hk fun e => h9 (hs k e)⟩
theorem put3 {W : World} {b : Nat} {a0 a1 a2 : Value} {t : TypeId} (h : W.heap[b]? = some (.cells #[a0, a1, a2] t (0, 0))) (c0 c1 c2 : Value) (W' : World) (e : ((W.setCell ⟨b, 0, none⟩ c0).setCell ⟨b, 1, none⟩ c1).setCell ⟨b, 2, none⟩ c2 = W') : W'.heap[b]? = some (.cells #[c0, c1, c2] t (0, 0)) ∧ (∀ k, k ≠ b → W'.heap[k]? = W.heap[k]?) ∧ (∀ B w0, Below B w0 W → B ≤ b → Below B w0 W') ∧ W'.heap.size = W.heap.size := by
  subst e
  have h0 : (W.setCell ⟨b, 0, none⟩ c0).heap[b]? = some (.cells #[c0, a1, a2] t (0, 0)) := by rw [setCell_block _ _ _ _ h]; rfl
  have h1 : ((W.setCell ⟨b, 0, none⟩ c0).setCell ⟨b, 1, none⟩ c1).heap[b]? = some (.cells #[c0, c1, a2] t (0, 0)) := by rw [setCell_block _ _ _ _ h0]; rfl
  refine ⟨by rw [setCell_block _ _ _ _ h1]; rfl, fun k hk => ?_, fun B w0 hb hB => ?_, by simp [World.setCell]⟩
  · rw [Below.heap_setCell _ _ _ _ hk, Below.heap_setCell _ _ _ _ hk, Below.heap_setCell _ _ _ _ hk]
  · exact ((hb.setCell (p := ⟨b, 0, none⟩) hB _).setCell (p := ⟨b, 1, none⟩) hB _).setCell (p := ⟨b, 2, none⟩) hB _
theorem sinfo {i? : Option TypeInfo} {z : Value} {s b : Nat} (h : i?.map (fun i => (i.zero, i.size, i.bytes)) = some (some z, s, b)) : ∃ i, i? = some i ∧ i.zero = some z ∧ i.size = s ∧ i.bytes = b := sinf h
theorem infoSE : (Try.prog.info? 142).map (fun i => (i.zero, i.size, i.bytes)) = some (some (.agg #[.int .u64 0, .int .i64 0, .int .u64 0, .int .i64 0, .int .i64 0, .int .i64 0]), 6, 48) := by kernel_rfl
theorem infoSA : (Try.prog.info? 84).map (fun i => (i.zero, i.size, i.bytes)) = some (some (.agg #[.slice none 0 0, .int .u64 0, .int .u64 0]), 3, 40) := by kernel_rfl
theorem kat_w {W : World} {g n : Nat} {K : Nat → Int} (h : W.heap[g]? = some (.cells (intsL K n).toArray 2 (0, 0))) : KAt W (some ⟨g, 0, none⟩) n K := by
  refine .inr ⟨g, 0, rfl, lt_of_block h, fun j hj => ?_⟩
  unfold World.cell?
  rw [h]
  have := intsL_get (K := K) hj
  simpa using this
/-- n elements of s cells, F, lie somewhere -/
def CIn (W : World) (p : Option Addr) (n s : Nat) (F : Nat → Value) : Prop := n = 0 ∨ ∃ b o, p = some ⟨b, o, none⟩ ∧ b < W.heap.size ∧ ∀ j, j < n * s → W.cell? ⟨b, o + j, none⟩ = some (F j)
theorem CIn.below {W W' : World} {p : Option Addr} {n s : Nat} {F : Nat → Value} (h : CIn W p n s F) (hb : Below W.heap.size W W') : CIn W' p n s F := by
  rcases h with h | ⟨b, o, h1, h2, h3⟩
  · exact .inl h
  · exact .inr ⟨b, o, h1, Nat.lt_of_lt_of_le h2 hb.size, fun j hj => (cell_below (a := ⟨b, o + j, none⟩) hb h2).trans (h3 j hj)⟩
structure Sa where
  p : Option Addr
  n : Nat
  c : Nat
  d : Int
  s : Int
def saL (a : Sa) : List Value := [.slice a.p a.n a.c, .int .u64 a.d, .int .u64 a.s]
def SsAt (W : World) (p : Option Addr) (n : Nat) (A : Nat → Sa) (K : Nat → Nat → Int) : Prop := n = 0 ∨ ∃ g o, p = some ⟨g, o, none⟩ ∧ g < W.heap.size ∧ (∀ j, j < n → W.cell? ⟨g, o + j * 3, none⟩ = some (.slice (A j).p (A j).n (A j).c) ∧ W.cell? ⟨g, o + j * 3 + 1, none⟩ = some (.int .u64 (A j).d) ∧ W.cell? ⟨g, o + j * 3 + 2, none⟩ = some (.int .u64 (A j).s)) ∧ ∀ j, j < n → KAt W (A j).p (A j).n (K j)
theorem SsAt.below {W W' : World} {p : Option Addr} {n : Nat} {A : Nat → Sa} {K : Nat → Nat → Int} (h : SsAt W p n A K) (hb : Below W.heap.size W W') : SsAt W' p n A K := by
  rcases h with h | ⟨g, o, rfl, hl, hc, hp⟩
  · exact .inl h
  · exact .inr ⟨g, o, rfl, Nat.lt_of_lt_of_le hl hb.size, fun j hj => ⟨(cell_below (a := ⟨g, o + j * 3, none⟩) hb hl).trans (hc j hj).1, (cell_below (a := ⟨g, o + j * 3 + 1, none⟩) hb hl).trans (hc j hj).2.1, (cell_below (a := ⟨g, o + j * 3 + 2, none⟩) hb hl).trans (hc j hj).2.2⟩, fun j hj => (hp j hj).below hb⟩
set_option maxRecDepth 100000 in
set_option maxHeartbeats 2000000 in
theorem copyEvents_any (p : Option Addr) (n cp : Nat) (X : Nat → Value) (hX : ∀ j, (X j).oneCell' = true) (hn : n ≤ 2932031007402) (w : World) (hsrc : CIn w p n 6 X) : Calls Try.prog 15 #[.slice p n cp] w fun e w' => ∃ g, e = .returned (.slice (some ⟨g, 0, none⟩) n n) ∧ Below w.heap.size w w' := by
  obtain ⟨i6, hi6, ha6, hb6, hc6⟩ := sinfo infoSE
  have hsz : (Try.prog.info? 142).map (·.size) = some 6 := by simp [hi6, hb6]
  have HS : Hid (CIn w p n 6 X) := hsrc
  clear hsrc
  go_enter Try.func15, Try.ntmps15
  go_wp2_with (at_make; refine wpList_make_full _ rfl (.tmp 5) (.tmp 5) 27 rfl w.heap.size 142 i6 _ 6 Try.underlying27 hi6 ha6 hb6 .i64 .i64 n n n rfl rfl rfl rfl ?c1 ?c2 ?c3 ?_)
  case c1 => rw [hc6]; omega
  case c2 => unfold maxLen; omega
  case c3 => exact Nat.le_refl _
  intro w1 hown hgrow
  have hb1 : Below w.heap.size w w1 := (Below.refl _ _).grown hgrow (Nat.le_refl _) (by simp)
  have hO := own_of hown
  have hs2 : n = 0 ∨ ∃ ad, p = some ad ∧ ∀ j, j < n * 6 → w1.cell? (ad.add j) = some (X j) := by
    rcases HS.out with h | ⟨b, o, hp, hb, hc⟩
    · exact .inl h
    · exact .inr ⟨_, hp, fun j hj => by rw [addr_add0]; exact (cell_below (a := ⟨b, o + j, none⟩) hb1 hb).trans (hc j hj)⟩
  have HB1 : Hid (Below w.heap.size w w1) := hb1
  clear hown hgrow hb1
  go_wp2_with (refine wpList_copy_head rfl (.tmp 7) (.tmp 8) 27 27 rfl 142 6 Try.underlying27 hsz w.heap.size w.heap.size n n n cp p rfl rfl (Nat.le_refl _) _ X hO (fun j _ => hX j) hs2 w.heap.size w HB1.out (Nat.le_refl _) ?_; intro w2 hO2 hB2)
  go_ret
  exact ⟨_, rfl, hB2⟩
set_option maxRecDepth 100000 in
set_option maxHeartbeats 2000000 in
theorem copyState_any (p : Option Addr) (n c : Nat) (K : Nat → Int) (d s : Int) (hn : n ≤ 17592186044416) (w : World) (h : KAt w p n K) : Calls Try.prog 24 #[.agg #[.slice p n c, .int .u64 d, .int .u64 s]] w fun e w' => ∃ q cc, e = .returned (.agg #[.slice q n cc, .int .u64 d, .int .u64 s]) ∧ KAt w' q n K ∧ (∀ g o, q = some ⟨g, o, none⟩ → w.heap.size ≤ g ∧ g < w'.heap.size) ∧ Below w.heap.size w w' := by
  obtain ⟨wb, hwb⟩ : ∃ wb, (w.alloc (.cells #[.slice p n c, .int .u64 d, .int .u64 s] 84)).alloc (.cells #[.slice none 0 0, .int .u64 0, .int .u64 0] 84) = wb := ⟨_, rfl⟩
  have hb0 : Below w.heap.size w wb := by rw [← hwb]; exact ((Below.refl _ w).alloc (Nat.le_refl _) _).alloc (by simp) _
  have hbox : wb.heap[w.heap.size]? = some (.cells #[.slice p n c, .int .u64 d, .int .u64 s] 84 (0, 0)) := by
    rw [← hwb, Below.heap_alloc _ _ _ (by simp)]
    exact World.alloc_heap_new w _
  have hres : wb.heap[w.heap.size + 1]? = some (.cells #[.slice none 0 0, .int .u64 0, .int .u64 0] 84 (0, 0)) := by
    rw [← hwb]
    have := World.alloc_heap_new (w.alloc (.cells #[.slice p n c, .int .u64 d, .int .u64 s] 84)) (.cells #[.slice none 0 0, .int .u64 0, .int .u64 0] 84)
    rwa [World.size_alloc] at this
  have HSZ : Hid (wb.heap.size = w.heap.size + 2) := by show wb.heap.size = w.heap.size + 2; rw [← hwb]; simp
  have HW : Hid ((w.alloc (.cells #[.slice p n c, .int .u64 d, .int .u64 s] 84)).alloc (.cells #[.slice none 0 0, .int .u64 0, .int .u64 0] 84) = wb) := hwb
  have HC := copyWords_any p n c K wb hn (h.below hb0)
  have HB : Hid (Below w.heap.size w wb ∧ wb.heap[w.heap.size]? = some (.cells #[.slice p n c, .int .u64 d, .int .u64 s] 84 (0, 0)) ∧ wb.heap[w.heap.size + 1]? = some (.cells #[.slice none 0 0, .int .u64 0, .int .u64 0] 84 (0, 0))) := ⟨hb0, hbox, hres⟩
  obtain ⟨c0, c1, c2⟩ := cells3p hbox
  rw [← hwb] at c0 c1 c2
  obtain ⟨gw, hgw⟩ : ∃ gw, wb.heap.size = gw := ⟨_, rfl⟩
  rw [hgw] at HC
  have HGW : Hid (wb.heap.size = gw) := hgw
  clear hwb h hb0 hbox hres hgw
  go_enter Try.func24, Try.ntmps24
  go_upto_region 2 with (go_at_call 19; rw [HW.out]; (with_reducible refine HC.mono ?_); rintro e w1 ⟨rfl, hr1, hb1, hl1⟩; have hb1 : Below wb.heap.size wb w1 := (by rw [HGW.out]; exact hb1); have hx1 := (hb1.block _ (lt_of_block HB.out.2.1)).trans HB.out.2.1; have hy1 := (hb1.block _ (lt_of_block HB.out.2.2)).trans HB.out.2.2; have H1 : Hid (KAt w1 (some ⟨gw, 0, none⟩) n K ∧ Below wb.heap.size wb w1 ∧ gw < w1.heap.size ∧ w1.heap[w.heap.size]? = some (.cells #[.slice p n c, .int .u64 d, .int .u64 s] 84 (0, 0)) ∧ w1.heap[w.heap.size + 1]? = some (.cells #[.slice none 0 0, .int .u64 0, .int .u64 0] 84 (0, 0))) := ⟨kat_w hr1, hb1, hl1, hx1, hy1⟩; clear c0 c1 c2; obtain ⟨c0, c1, c2⟩ := cells3p hx1; have z0 := frz hx1 0; clear hr1 hb1 hl1 hx1 hy1)
  obtain ⟨w2, hw2⟩ : ∃ w2, w1.setCell ⟨w.heap.size, 0, none⟩ (.slice (some ⟨gw, 0, none⟩) n n) = w2 := ⟨_, rfl⟩
  rw [hw2]
  have hbx2 : w2.heap[w.heap.size]? = some (.cells #[.slice (some ⟨gw, 0, none⟩) n n, .int .u64 d, .int .u64 s] 84 (0, 0)) := by rw [← hw2, setCell_block _ _ _ _ H1.out.2.2.2.1]; rfl
  have hrs2 : w2.heap[w.heap.size + 1]? = some (.cells #[.slice none 0 0, .int .u64 0, .int .u64 0] 84 (0, 0)) := by
    rw [← hw2, Below.heap_setCell _ _ _ _ (by show w.heap.size + 1 ≠ w.heap.size; omega)]
    exact H1.out.2.2.2.2
  have HK2 : Hid (Kb (fun k => k = w.heap.size) w1 w2 ∧ w2.heap[w.heap.size + 1]? = some (.cells #[.slice none 0 0, .int .u64 0, .int .u64 0] 84 (0, 0)) ∧ Below w.heap.size w w2) := by
    refine ⟨by rw [← hw2]; exact Kb.set w1 _ _ _ rfl, hrs2, ?_⟩
    rw [← hw2]
    exact (HB.out.1.trans (H1.out.2.1.mono HB.out.1.size)).setCell (p := ⟨w.heap.size, 0, none⟩) (Nat.le_refl _) _
  clear c0 c1 c2 z0 hw2
  obtain ⟨c0, c1, c2⟩ := cells3p hbx2
  obtain ⟨d0, d1, d2⟩ := cells3p hrs2
  have z0 := frz hrs2 0
  have z1 := frz hrs2 1
  have z2 := frz hrs2 2
  clear hbx2 hrs2
  go_wp2_with fail
  generalize hWF : (World.setCell (World.setCell (World.setCell w2 _ _) _ _) _ _) = wF
  obtain ⟨q1, q2, q3, q4⟩ := put3 HK2.out.2.1 _ _ _ wF hWF
  obtain ⟨e0, e1, e2⟩ := cells3p q1
  refine bodyPost_ret (v := .agg #[.slice (some ⟨gw, 0, none⟩) n n, .int .u64 d, .int .u64 s]) (by simp [results, Try.results24, go_sem, e0, e1, e2]; try rfl) rfl ?_
  have hz := HSZ.out
  have hg := HGW.out
  have hs2 := HK2.out.1.size
  have kbF : Kb (fun k => k = w.heap.size ∨ k = w.heap.size + 1) w1 wF := (HK2.out.1.mono fun k e => .inl e).trans ⟨by omega, fun k _ hs => q2 k fun e => hs (.inr e)⟩
  refine ⟨_, _, rfl, H1.out.1.kb kbF (fun g o e h9 => ?_), fun g o e => ?_, q3 _ _ HK2.out.2.2 (Nat.le_succ _)⟩
  · injection e with e
    injection e with e1 e2 e3
    rcases h9 with h9 | h9 <;> omega
  · injection e with e
    injection e with e1 e2 e3
    have := H1.out.2.2.1
    omega
set_option maxRecDepth 100000 in
set_option maxHeartbeats 4000000 in
theorem copyStates_any (p : Option Addr) (n c : Nat) (A : Nat → Sa) (K : Nat → Nat → Int) (hn : n * 40 ≤ 140737488355328) (hw : ∀ j, j < n → (A j).n ≤ 17592186044416) (w : World) (h : SsAt w p n A K) :
    Calls Try.prog 14 #[.slice p n c] w fun e w' => ∃ (q : Option Addr) (cc : Nat), e = .returned (.slice q n cc) ∧ Below w.heap.size w w' := by
  obtain ⟨iA, hA1, hA2, hA3, hA4⟩ := sinfo infoSA
  have HS : Hid (SsAt w p n A K ∧ ∀ j, j < n → (A j).n ≤ 17592186044416) := ⟨h, hw⟩
  clear h hw
  go_enter Try.func14, Try.ntmps14
  go_wp2_with fail
  go_loopw [3, 8] (fun r x wr => ∃ (i : Nat) (F : Nat → Value), x = .int .i64 (i : Int) ∧ i ≤ n ∧ Own wr w.heap.size 84 3 r i F ∧ Below w.heap.size w wr) (fun _ x _ => n - (intOf x).toNat)
  case atStart => exact ⟨0, fun _ => undef, rfl, Nat.zero_le _, World.ownsRow_nil _ _ _ _, Below.refl _ _⟩
  case round =>
    obtain ⟨i, F, rfl, hi, hst, hb⟩ := hrel
    by_cases hlt : i < n
    case pos =>
      have dlt : decide ((i : Int) < (n : Int)) = true := by simp; omega
      have i0 : (0 : Int) ≤ (i : Int) := by omega
      have i1 : (i : Int) < (n : Int) := by omega
      have ei : IntKind.i64.wrap ((i : Int) + 1) = (i : Int) + 1 := by rw [IntKind.wrap_i64]; omega
      have hme := meas hlt
      obtain hz | ⟨g, o, hp, hl, hc, hkw⟩ := HS.out.1.below hb
      · omega
      obtain ⟨x0, x1, x2⟩ := hc i hlt
      have hbx : Below wr.heap.size wr (wr.alloc (.cells #[.slice (A i).p (A i).n (A i).c, .int .u64 (A i).d, .int .u64 (A i).s] 84)) := (Below.refl _ wr).alloc (Nat.le_refl _) _
      have HC := copyState_any (A i).p (A i).n (A i).c (K i) (A i).d (A i).s (HS.out.2 i hlt) _ ((hkw i hlt).below hbx)
      have p1 : i + 1 ≤ maxLen := by unfold maxLen; omega
      have p2 : (i + 1) * 40 ≤ 140737488355328 := by omega
      have HA : Hid (Own wr w.heap.size 84 3 u3 i F ∧ Below w.heap.size w wr ∧ Below wr.heap.size wr (wr.alloc (.cells #[.slice (A i).p (A i).n (A i).c, .int .u64 (A i).d, .int .u64 (A i).s] 84))) := ⟨hst, hb, hbx⟩
      rw [hp]
      clear hc hkw hbx hst hb hl hp
      go_wp2_with (first | (go_at_call 24; (with_reducible refine HC.mono ?_); rintro e w3 ⟨q3, c3, rfl, hq3, hqn3, hb3⟩; have hbr : Below wr.heap.size wr w3 := HA.out.2.2.trans (hb3.mono HA.out.2.2.size); have H3 : Hid ((w3.alloc (.cells (saL ⟨q3, (A i).n, c3, (A i).d, (A i).s⟩).toArray 84)).ownsRow w.heap.size 84 3 u3 i (cellsF F (i * 3)) ∧ (∀ j y, (saL ⟨q3, (A i).n, c3, (A i).d, (A i).s⟩)[j]? = some y → (w3.alloc (.cells (saL ⟨q3, (A i).n, c3, (A i).d, (A i).s⟩).toArray 84)).cell? ((⟨w3.heap.size, 0, none⟩ : Addr).add j) = some y) ∧ Below w.heap.size w (w3.alloc (.cells (saL ⟨q3, (A i).n, c3, (A i).d, (A i).s⟩).toArray 84))) := (by
          have h3 : Below w3.heap.size w3 (w3.alloc (.cells (saL ⟨q3, (A i).n, c3, (A i).d, (A i).s⟩).toArray 84)) := (Below.refl _ w3).alloc (Nat.le_refl _) _
          have h5 : Below w.heap.size w w3 := HA.out.2.1.trans (hbr.mono HA.out.2.1.size)
          exact ⟨World.ownsRow.alloc (srow_later HA.out.1 hbr) _, scells_new w3 (saL ⟨q3, (A i).n, c3, (A i).d, (A i).s⟩) _, h5.trans (h3.mono h5.size)⟩); clear hq3 hqn3 hb3 hbr) | (at_builtin; refine wpList_append_own_at _ rfl _ _ 26 rfl w.heap.size 84 iA _ 3 40 Try.underlying26 hA1 hA2 hA3 hA4 rfl (by decide) _ _ _ rfl H3.out.1 ⟨w3.heap.size, 0, none⟩ 1 1 (saL ⟨q3, (A i).n, c3, (A i).d, (A i).s⟩) rfl rfl H3.out.2.1 (by simp [saL, Value.oneCell']) p1 p2 H3.out.2.2.size ?_; intro v' w9 hown9 hgrow9 _ hnb9))
      obtain ⟨b1, b2, b3⟩ := H3.out
      have hb9 : Below w.heap.size w w9 := b3.grown hgrow9 b3.size (fun r' e => (srow_lt b1 r' e).1)
      exact ⟨⟨i + 1, _, rfl, hlt, own_of hown9, hb9⟩, hme⟩
    have dlt : decide ((i : Int) < (n : Int)) = false := by simp; omega
    obtain rfl : i = n := by omega
    have hq : ∃ q cc, u3 = .slice q i cc := by
      rcases hst.form with ⟨h1, h2⟩ | ⟨g, c, h1, h2, h3⟩
      · exact ⟨none, 0, by rw [h1, h2]⟩
      · exact ⟨_, c, h1⟩
    obtain ⟨q, cc, rfl⟩ := hq
    clear hst
    go_wp2_with fail
    go_ret
    exact ⟨q, cc, rfl, hb⟩
theorem kboxed2 (w : World) (c d : Array Value) (t u : TypeId) : ∃ wb, (w.alloc (.cells c t)).alloc (.cells d u) = wb ∧ Below w.heap.size w wb ∧ wb.heap[w.heap.size]? = some (.cells c t (0, 0)) ∧ wb.heap[w.heap.size + 1]? = some (.cells d u (0, 0)) ∧ wb.heap.size = w.heap.size + 2 := by
  refine ⟨_, rfl, ((Below.refl _ w).alloc (Nat.le_refl _) _).alloc (by simp) _, ?_, ?_, by simp⟩
  · rw [Below.heap_alloc _ _ _ (by simp)]
    exact World.alloc_heap_new w _
  · have := World.alloc_heap_new (w.alloc (.cells c t)) (.cells d u)
    rwa [World.size_alloc] at this
theorem cells8k {W9 : World} {b : Nat} {c0 c1 c2 c3 c4 c5 c6 c7 : Value} {t : TypeId} (h : W9.heap[b]? = some (.cells #[c0, c1, c2, c3, c4, c5, c6, c7] t (0, 0))) : W9.cell? ⟨b, 0, none⟩ = some c0 ∧ W9.cell? ⟨b, 1, none⟩ = some c1 ∧ W9.cell? ⟨b, 2, none⟩ = some c2 ∧ W9.cell? ⟨b, 3, none⟩ = some c3 ∧ W9.cell? ⟨b, 4, none⟩ = some c4 ∧ W9.cell? ⟨b, 5, none⟩ = some c5 ∧ W9.cell? ⟨b, 6, none⟩ = some c6 ∧ W9.cell? ⟨b, 7, none⟩ = some c7 := by
  refine ⟨?_, ?_, ?_, ?_, ?_, ?_, ?_, ?_⟩
  all_goals (unfold World.cell?; rw [h]; rfl)
theorem put8 {W : World} {b : Nat} {a0 a1 a2 a3 a4 a5 a6 a7 : Value} {t : TypeId} (h : W.heap[b]? = some (.cells #[a0, a1, a2, a3, a4, a5, a6, a7] t (0, 0))) (c0 c1 c2 c3 c4 c5 c6 c7 : Value) (W' : World) (e : ((((((((W.setCell ⟨b, 0, none⟩ c0).setCell ⟨b, 1, none⟩ c1).setCell ⟨b, 2, none⟩ c2).setCell ⟨b, 3, none⟩ c3).setCell ⟨b, 4, none⟩ c4).setCell ⟨b, 5, none⟩ c5).setCell ⟨b, 6, none⟩ c6).setCell ⟨b, 7, none⟩ c7) = W') : W'.heap[b]? = some (.cells #[c0, c1, c2, c3, c4, c5, c6, c7] t (0, 0)) ∧ (∀ B w0, Below B w0 W → B ≤ b → Below B w0 W') := by
  subst e
  have h1 : (W.setCell ⟨b, 0, none⟩ c0).heap[b]? = some (.cells #[c0, a1, a2, a3, a4, a5, a6, a7] t (0, 0)) := by rw [setCell_block _ _ _ _ h]; rfl
  have h2 : ((W.setCell ⟨b, 0, none⟩ c0).setCell ⟨b, 1, none⟩ c1).heap[b]? = some (.cells #[c0, c1, a2, a3, a4, a5, a6, a7] t (0, 0)) := by rw [setCell_block _ _ _ _ h1]; rfl
  have h3 : (((W.setCell ⟨b, 0, none⟩ c0).setCell ⟨b, 1, none⟩ c1).setCell ⟨b, 2, none⟩ c2).heap[b]? = some (.cells #[c0, c1, c2, a3, a4, a5, a6, a7] t (0, 0)) := by rw [setCell_block _ _ _ _ h2]; rfl
  have h4 : ((((W.setCell ⟨b, 0, none⟩ c0).setCell ⟨b, 1, none⟩ c1).setCell ⟨b, 2, none⟩ c2).setCell ⟨b, 3, none⟩ c3).heap[b]? = some (.cells #[c0, c1, c2, c3, a4, a5, a6, a7] t (0, 0)) := by rw [setCell_block _ _ _ _ h3]; rfl
  have h5 : (((((W.setCell ⟨b, 0, none⟩ c0).setCell ⟨b, 1, none⟩ c1).setCell ⟨b, 2, none⟩ c2).setCell ⟨b, 3, none⟩ c3).setCell ⟨b, 4, none⟩ c4).heap[b]? = some (.cells #[c0, c1, c2, c3, c4, a5, a6, a7] t (0, 0)) := by rw [setCell_block _ _ _ _ h4]; rfl
  have h6 : ((((((W.setCell ⟨b, 0, none⟩ c0).setCell ⟨b, 1, none⟩ c1).setCell ⟨b, 2, none⟩ c2).setCell ⟨b, 3, none⟩ c3).setCell ⟨b, 4, none⟩ c4).setCell ⟨b, 5, none⟩ c5).heap[b]? = some (.cells #[c0, c1, c2, c3, c4, c5, a6, a7] t (0, 0)) := by rw [setCell_block _ _ _ _ h5]; rfl
  have h7 : (((((((W.setCell ⟨b, 0, none⟩ c0).setCell ⟨b, 1, none⟩ c1).setCell ⟨b, 2, none⟩ c2).setCell ⟨b, 3, none⟩ c3).setCell ⟨b, 4, none⟩ c4).setCell ⟨b, 5, none⟩ c5).setCell ⟨b, 6, none⟩ c6).heap[b]? = some (.cells #[c0, c1, c2, c3, c4, c5, c6, a7] t (0, 0)) := by rw [setCell_block _ _ _ _ h6]; rfl
  refine ⟨by rw [setCell_block _ _ _ _ h7]; rfl, fun B w0 hb hB => ?_⟩
  exact ((((((((hb.setCell (p := ⟨b, 0, none⟩) hB _).setCell (p := ⟨b, 1, none⟩) hB _).setCell (p := ⟨b, 2, none⟩) hB _).setCell (p := ⟨b, 3, none⟩) hB _).setCell (p := ⟨b, 4, none⟩) hB _).setCell (p := ⟨b, 5, none⟩) hB _).setCell (p := ⟨b, 6, none⟩) hB _).setCell (p := ⟨b, 7, none⟩) hB _)
set_option maxRecDepth 100000 in
set_option maxHeartbeats 4000000 in
theorem copyResult_any (k c a0 a1 a2 m : Int) (q x : Option Addr) (n cq nx cx : Nat) (A : Nat → Sa) (K : Nat → Nat → Int) (X : Nat → Value) (hX : ∀ j, (X j).oneCell' = true) (hn : n * 40 ≤ 140737488355328) (hw : ∀ j, j < n → (A j).n ≤ 17592186044416) (hx : nx ≤ 2932031007402) (w : World) (h : SsAt w q n A K) (h' : CIn w x nx 6 X) :
    Calls Try.prog 7 #[.agg #[.int .i64 k, .int .i64 c, .int .u64 a0, .int .i64 a1, .int .u64 a2, .int .i64 m, .slice q n cq, .slice x nx cx]] w fun e w' => ∃ (q' : Option Addr) (cq' : Nat) (x' : Option Addr) (cx' : Nat), e = .returned (.agg #[.int .i64 k, .int .i64 c, .int .u64 a0, .int .i64 a1, .int .u64 a2, .int .i64 m, .slice q' n cq', .slice x' nx cx']) ∧ Below w.heap.size w w' := by
  obtain ⟨wb, hwb, hb0, hbox, hbx2, hsz⟩ := kboxed2 w #[.int .i64 k, .int .i64 c, .int .u64 a0, .int .i64 a1, .int .u64 a2, .int .i64 m, .slice q n cq, .slice x nx cx] #[.int .i64 0, .int .i64 0, .int .u64 0, .int .i64 0, .int .u64 0, .int .i64 0, .slice none 0 0, .slice none 0 0] 29 29
  have HW : Hid ((w.alloc (.cells #[.int .i64 k, .int .i64 c, .int .u64 a0, .int .i64 a1, .int .u64 a2, .int .i64 m, .slice q n cq, .slice x nx cx] 29)).alloc (.cells #[.int .i64 0, .int .i64 0, .int .u64 0, .int .i64 0, .int .u64 0, .int .i64 0, .slice none 0 0, .slice none 0 0] 29) = wb) := hwb
  have HSZ : Hid (wb.heap.size = w.heap.size + 2) := hsz
  have HC1 := copyStates_any q n cq A K hn hw wb (h.below hb0)
  have HC2 : ∀ W, Below wb.heap.size wb W → Hid (Calls Try.prog 15 #[.slice x nx cx] W fun e w' => ∃ g, e = .returned (.slice (some ⟨g, 0, none⟩) nx nx) ∧ Below W.heap.size W w') := fun W hb => copyEvents_any x nx cx X hX hx W ((h'.below hb0).below hb)
  have hl1 := lt_of_block hbox
  have hl2 := lt_of_block hbx2
  obtain ⟨c0, c1, c2, c3, c4, c5, c6, c7⟩ := cells8k hbox
  rw [← hwb] at c0 c1 c2 c3 c4 c5 c6 c7
  have h'' := h'
  clear hwb h h' hsz HC2
  go_enter Try.func7, Try.ntmps7
  go_upto_region 2 with (go_at_call 14; rw [HW.out]; (with_reducible refine HC1.mono ?_); rintro e w1 ⟨q1, cq1, rfl, hb1⟩; have hx1 := (hb1.block _ hl1).trans hbox; have hy1 := (hb1.block _ hl2).trans hbx2; have H1 : Hid (Below wb.heap.size wb w1 ∧ w1.heap[w.heap.size]? = some (.cells #[.int .i64 k, .int .i64 c, .int .u64 a0, .int .i64 a1, .int .u64 a2, .int .i64 m, .slice q n cq, .slice x nx cx] 29 (0, 0)) ∧ w1.heap[w.heap.size + 1]? = some (.cells #[.int .i64 0, .int .i64 0, .int .u64 0, .int .i64 0, .int .u64 0, .int .i64 0, .slice none 0 0, .slice none 0 0] 29 (0, 0))) := ⟨hb1, hx1, hy1⟩; clear c0 c1 c2 c3 c4 c5 c6 c7; obtain ⟨c0, c1, c2, c3, c4, c5, c6, c7⟩ := cells8k hx1; have z0 := frz hx1 6; clear hb1 hx1 hy1)
  obtain ⟨w2, hw2⟩ : ∃ w2, w1.setCell ⟨w.heap.size, 6, none⟩ (.slice q1 n cq1) = w2 := ⟨_, rfl⟩
  rw [hw2]
  have hbx3 : w2.heap[w.heap.size]? = some (.cells #[.int .i64 k, .int .i64 c, .int .u64 a0, .int .i64 a1, .int .u64 a2, .int .i64 m, .slice q1 n cq1, .slice x nx cx] 29 (0, 0)) := by rw [← hw2, setCell_block _ _ _ _ H1.out.2.1]; rfl
  have hrs2 : w2.heap[w.heap.size + 1]? = some (.cells #[.int .i64 0, .int .i64 0, .int .u64 0, .int .i64 0, .int .u64 0, .int .i64 0, .slice none 0 0, .slice none 0 0] 29 (0, 0)) := by
    rw [← hw2, Below.heap_setCell _ _ _ _ (by show w.heap.size + 1 ≠ w.heap.size; omega)]
    exact H1.out.2.2
  have hbw2 : Below w.heap.size w w2 := by
    rw [← hw2]
    exact (hb0.trans (H1.out.1.mono hb0.size)).setCell (p := ⟨w.heap.size, 6, none⟩) (Nat.le_refl _) _
  have HE := copyEvents_any x nx cx X hX hx w2 (by
    rcases h'' with h | ⟨b, o, h1, h2, h3⟩
    · exact .inl h
    · refine .inr ⟨b, o, h1, by have := hbw2.size; omega, fun j hj => ?_⟩
      exact (World.cell?_of_block (a := ⟨b, o + j, none⟩) (hbw2.block b h2)).trans (h3 j hj))
  have HB2 : Hid (Below w.heap.size w w2 ∧ w2.heap[w.heap.size]? = some (.cells #[.int .i64 k, .int .i64 c, .int .u64 a0, .int .i64 a1, .int .u64 a2, .int .i64 m, .slice q1 n cq1, .slice x nx cx] 29 (0, 0)) ∧ w2.heap[w.heap.size + 1]? = some (.cells #[.int .i64 0, .int .i64 0, .int .u64 0, .int .i64 0, .int .u64 0, .int .i64 0, .slice none 0 0, .slice none 0 0] 29 (0, 0))) := ⟨hbw2, hbx3, hrs2⟩
  clear c0 c1 c2 c3 c4 c5 c6 c7 z0 hw2
  obtain ⟨c0, c1, c2, c3, c4, c5, c6, c7⟩ := cells8k hbx3
  have hm1 := lt_of_block hbx3
  have hm2 := lt_of_block hrs2
  clear hbx3 hrs2 hbw2 hbox hbx2
  go_upto_region 3 with (go_at_call 15; (with_reducible refine HE.mono ?_); rintro e w3 ⟨g3, rfl, hb3⟩; have hx3 := (hb3.block _ hm1).trans HB2.out.2.1; have hy3 := (hb3.block _ hm2).trans HB2.out.2.2; have H3 : Hid (Below w.heap.size w w3 ∧ w3.heap[w.heap.size]? = some (.cells #[.int .i64 k, .int .i64 c, .int .u64 a0, .int .i64 a1, .int .u64 a2, .int .i64 m, .slice q1 n cq1, .slice x nx cx] 29 (0, 0)) ∧ w3.heap[w.heap.size + 1]? = some (.cells #[.int .i64 0, .int .i64 0, .int .u64 0, .int .i64 0, .int .u64 0, .int .i64 0, .slice none 0 0, .slice none 0 0] 29 (0, 0))) := ⟨HB2.out.1.trans (hb3.mono HB2.out.1.size), hx3, hy3⟩; clear c0 c1 c2 c3 c4 c5 c6 c7; obtain ⟨c0, c1, c2, c3, c4, c5, c6, c7⟩ := cells8k hx3; have z0 := frz hx3 7; clear hb3 hx3 hy3)
  obtain ⟨w4, hw4⟩ : ∃ w4, w3.setCell ⟨w.heap.size, 7, none⟩ (.slice (some ⟨g3, 0, none⟩) nx nx) = w4 := ⟨_, rfl⟩
  rw [hw4]
  have hbx4 : w4.heap[w.heap.size]? = some (.cells #[.int .i64 k, .int .i64 c, .int .u64 a0, .int .i64 a1, .int .u64 a2, .int .i64 m, .slice q1 n cq1, .slice (some ⟨g3, 0, none⟩) nx nx] 29 (0, 0)) := by rw [← hw4, setCell_block _ _ _ _ H3.out.2.1]; rfl
  have hrs4 : w4.heap[w.heap.size + 1]? = some (.cells #[.int .i64 0, .int .i64 0, .int .u64 0, .int .i64 0, .int .u64 0, .int .i64 0, .slice none 0 0, .slice none 0 0] 29 (0, 0)) := by
    rw [← hw4, Below.heap_setCell _ _ _ _ (by show w.heap.size + 1 ≠ w.heap.size; omega)]
    exact H3.out.2.2
  have HB4 : Hid (Below w.heap.size w w4 ∧ w4.heap[w.heap.size + 1]? = some (.cells #[.int .i64 0, .int .i64 0, .int .u64 0, .int .i64 0, .int .u64 0, .int .i64 0, .slice none 0 0, .slice none 0 0] 29 (0, 0))) := by
    refine ⟨?_, hrs4⟩
    rw [← hw4]
    exact H3.out.1.setCell (p := ⟨w.heap.size, 7, none⟩) (Nat.le_refl _) _
  clear c0 c1 c2 c3 c4 c5 c6 c7 z0 hw4
  obtain ⟨c0, c1, c2, c3, c4, c5, c6, c7⟩ := cells8k hbx4
  obtain ⟨r0, r1, r2, r3, r4, r5, r6, r7⟩ := cells8k hrs4
  have z0 := frz hrs4 0
  have z1 := frz hrs4 1
  have z2 := frz hrs4 2
  have z3 := frz hrs4 3
  have z4 := frz hrs4 4
  have z5 := frz hrs4 5
  have z6 := frz hrs4 6
  have z7 := frz hrs4 7
  clear hbx4 hrs4
  go_wp2_with fail
  generalize hWF : (World.setCell (World.setCell (World.setCell (World.setCell (World.setCell (World.setCell (World.setCell (World.setCell w4 _ _) _ _) _ _) _ _) _ _) _ _) _ _) _ _) = wF
  obtain ⟨q1', q3⟩ := put8 HB4.out.2 _ _ _ _ _ _ _ _ wF hWF
  obtain ⟨e0, e1, e2, e3, e4, e5, e6, e7⟩ := cells8k q1'
  refine bodyPost_ret (v := .agg #[.int .i64 k, .int .i64 c, .int .u64 a0, .int .i64 a1, .int .u64 a2, .int .i64 m, .slice q1 n cq1, .slice (some ⟨g3, 0, none⟩) nx nx]) (by simp [results, Try.results7, go_sem, e0, e1, e2, e3, e4, e5, e6, e7]; try rfl) rfl ?_
  exact ⟨q1, cq1, some ⟨g3, 0, none⟩, nx, rfl, q3 _ _ HB4.out.1 (Nat.le_succ _)⟩
end Go.Proofs.Ytpicobmilcbmlaa
