import Derived.Test.YtmekcccmnkgodaaGreatDoorFSP3
namespace Go.Proofs.YtmekcccmnkgodaaGreatDoor
open Go.ChangeShapes Go.WideShapes Go.ChangeAt Go.RowKit
set_option linter.unusedVariables false
set_option linter.unusedSimpArgs false
/-- may b stand behind a, where they stand? -/
def flwB (a b : Tk) : Bool := if a.line = b.line then (decide (b.col - (a.text.length : Int) > a.col) || (decide (b.col - (a.text.length : Int) = a.col) && tchB a b)) else decide (a.line < b.line)
set_option maxRecDepth 100000 in
set_option maxHeartbeats 2000000 in
theorem follows_any (a b : Tk) (hbt : b.text ≠ []) (ha : a.text ≠ []) (hla : a.text.length ≤ 65536) (hlb : b.text.length ≤ 65536) (hbc : 1 ≤ b.col ∧ b.col ≤ 9223372036854775807) (w : World) (g : Gr w) : Calls Tryz.prog 39 #[.agg (tkA a), .agg (tkA b)] w fun e w' => e = .returned (.bool (flwB a b)) ∧ Below w.heap.size w w' := by
  obtain ⟨c, x, hcx⟩ : ∃ c x, b.text = c :: x := by
    cases h : b.text with
    | nil => exact absurd h hbt
    | cons c x => exact ⟨c, x, rfl⟩
  obtain ⟨w1, hw1⟩ : ∃ w1, (w.alloc (.cells (tkA a) 40)).alloc (.cells (tkA b) 40) = w1 := ⟨_, rfl⟩
  have hbA : Below w.heap.size w (w.alloc (.cells (tkA a) 40)) := (Below.refl _ w).alloc (Nat.le_refl _) _
  have hb1 : Below w.heap.size w w1 := by rw [← hw1]; exact hbA.alloc (by simp) _
  have hbx : w1.heap[w.heap.size]? = some (.cells (tkA a) 40 (0, 0)) := by rw [← hw1]; exact (Below.heap_alloc _ _ _ (by simp)).trans (World.alloc_heap_new w _)
  have hby : w1.heap[w.heap.size + 1]? = some (.cells (tkA b) 40 (0, 0)) := by
    rw [← hw1]
    have h := World.alloc_heap_new (w.alloc (.cells (tkA a) 40)) (.cells (tkA b) 40 (0, 0))
    rw [World.size_alloc] at h
    exact h
  have HM : Hid (Calls Tryz.prog 60 #[.agg (tkA a), .agg (tkA b)] w1 fun e w' => e = .returned (.bool (tchB a b)) ∧ Below w1.heap.size w1 w') := mayTouch_any a b c x hcx ha hla hlb w1 (g.keep hb1)
  have HB : Hid (Below w.heap.size w w1) := hb1
  obtain ⟨tc, htc⟩ : ∃ tc, tchB a b = tc := ⟨_, rfl⟩
  rw [htc] at HM
  have hfl : flwB a b = if a.line = b.line then (decide (b.col - (a.text.length : Int) > a.col) || (decide (b.col - (a.text.length : Int) = a.col) && tc)) else decide (a.line < b.line) := by unfold flwB; rw [htc]
  rw [hfl]
  clear hfl htc hbA hb1 g hbt ha hcx c x
  obtain ⟨ak, at', an, al, ac⟩ := a
  obtain ⟨bk, bt, bn, bl, bc⟩ := b
  unfold tkA at *
  simp only at *
  obtain ⟨p0, p1, p2, p3, p4⟩ := cells5 hbx
  obtain ⟨q0, q1, q2, q3, q4⟩ := cells5 hby
  have haz : (⟨at'.toArray⟩ : ByteArray).size = at'.length := by simp [ByteArray.size]
  obtain ⟨la, hlae⟩ : ∃ la, at'.length = la := ⟨_, rfl⟩
  rw [hlae] at haz hla ⊢
  have es : IntKind.i64.wrap (bc - (la : Int)) = bc - (la : Int) := by rw [IntKind.wrap_i64]; omega
  clear hbx hby hlae
  go_enter Tryz.func39, Tryz.ntmps39
  by_cases h1 : al = bl
  · have d1 : (al == bl) = true := by simp; exact h1
    have d1' : (al != bl) = false := by simp; exact h1
    rw [if_pos h1]
    clear h1
    by_cases h2 : bc - (la : Int) > ac
    · have d2 : decide (ac < bc - (la : Int)) = true := decide_eq_true h2
      rw [decide_eq_true h2, Bool.true_or]
      clear h2
      go_wp2
      go_ret
      exact ⟨rfl, HB.out⟩
    · have d2 : decide (ac < bc - (la : Int)) = false := decide_eq_false (by omega)
      rw [decide_eq_false h2, Bool.false_or]
      by_cases h3 : bc - (la : Int) = ac
      · have d3 : (bc - (la : Int) == ac) = true := by simp; exact h3
        rw [decide_eq_true h3, Bool.true_and]
        clear h2 h3
        go_wp2_with (go_at_call 60; (with_reducible refine (HM.out).mono ?_); rintro e w2 ⟨rfl, hb2⟩)
        go_ret
        exact ⟨by simp, HB.out.trans (hb2.mono HB.out.size)⟩
      · have d3 : (bc - (la : Int) == ac) = false := by simp; exact h3
        rw [decide_eq_false h3, Bool.false_and]
        clear h2 h3
        go_wp2
        go_ret
        exact ⟨by simp, HB.out⟩
  · have d1 : (al == bl) = false := by simp; exact h1
    have d1' : (al != bl) = true := by simp; exact h1
    rw [if_neg h1]
    clear h1
    go_wp2
    go_ret
    exact ⟨by simp, HB.out⟩
end Go.Proofs.YtmekcccmnkgodaaGreatDoor
namespace Go.Proofs.YtmekcccmnkgodaaGreatDoor
open Go.ChangeShapes Go.WideShapes Go.ChangeAt Go.RowKit
set_option linter.unusedVariables false
set_option linter.unusedSimpArgs false
/-- tokens that lie somewhere -/
def TX (W : World) (p : Option Addr) (n : Nat) (X : Nat → Tk) : Prop := n = 0 ∨ ∃ b o, p = some ⟨b, o, none⟩ ∧ b < W.heap.size ∧ ∀ i r, i < n → r < 5 → W.cell? ⟨b, o + i * 5 + r, none⟩ = some ((tkCells (X i)).getD r undef)
theorem TX.below {W W' : World} {p : Option Addr} {n : Nat} {X : Nat → Tk} (h : TX W p n X) (hb : Below W.heap.size W W') : TX W' p n X := by
  rcases h with h | ⟨b, o, e, hl, hc⟩
  · exact .inl h
  · exact .inr ⟨b, o, e, Nat.lt_of_lt_of_le hl hb.size, fun i r hi hr => (World.cell?_of_block (a := ⟨b, o + i * 5 + r, none⟩) (hb.block b hl)).trans (hc i r hi hr)⟩
theorem TX.at {W : World} {b o : Nat} {n : Nat} {X : Nat → Tk} (hc : ∀ i r, i < n → r < 5 → W.cell? ⟨b, o + i * 5 + r, none⟩ = some ((tkCells (X i)).getD r undef)) {i : Nat} (hi : i < n) : W.cell? ⟨b, o + i * 5, none⟩ = some (.int .i64 (X i).kind) ∧ W.cell? ⟨b, o + i * 5 + 1, none⟩ = some (.string ⟨(X i).text.toArray⟩) ∧ W.cell? ⟨b, o + i * 5 + 2, none⟩ = some (.int .u64 ((X i).num : Int)) ∧ W.cell? ⟨b, o + i * 5 + 3, none⟩ = some (.int .i64 (X i).line) ∧ W.cell? ⟨b, o + i * 5 + 4, none⟩ = some (.int .i64 (X i).col) :=
  ⟨hc i 0 hi (by omega), hc i 1 hi (by omega), hc i 2 hi (by omega), hc i 3 hi (by omega), hc i 4 hi (by omega)⟩
structure TkR (t : Tk) : Prop where
  x : t.text.length ≤ maxLen
  l : -9223372036854775808 ≤ t.line ∧ t.line ≤ 9223372036854775807
  c : -9223372036854775808 ≤ t.col ∧ t.col ≤ 9223372036854775807
def okT (X : Nat → Tk) (i : Nat) : Bool := decide (1 ≤ (X i).line) && (decide (1 ≤ (X i).col) && (alB (X i) && (decide (i = 0) || flwB (X (i - 1)) (X i))))
def wfB (X : Nat → Tk) (n : Nat) : Bool := (List.range n).all (okT X)
theorem wf_yes {X : Nat → Tk} {n : Nat} (h : ∀ i, i < n → okT X i = true) : wfB X n = true := List.all_eq_true.2 fun i hi => h i (List.mem_range.1 hi)
theorem wf_no {X : Nat → Tk} {n i : Nat} (hi : i < n) (h : okT X i = false) : wfB X n = false := by
  cases e : wfB X n with
  | false => rfl
  | true =>
    have := List.all_eq_true.1 e i (List.mem_range.2 hi)
    rw [h] at this
    cases this
theorem wf_at {X : Nat → Tk} {n : Nat} (h : wfB X n = true) {i : Nat} (hi : i < n) : okT X i = true := List.all_eq_true.1 h i (List.mem_range.2 hi)
theorem ok_al {X : Nat → Tk} {i : Nat} (h : okT X i = true) : 1 ≤ (X i).line ∧ 1 ≤ (X i).col ∧ alB (X i) = true ∧ (i = 0 ∨ flwB (X (i - 1)) (X i) = true) := by
  unfold okT at h
  simp only [Bool.and_eq_true, Bool.or_eq_true, decide_eq_true_eq] at h
  exact ⟨h.1, h.2.1, h.2.2.1, h.2.2.2⟩
theorem al_text {t : Tk} (h : alB t = true) : t.text ≠ [] ∧ t.text.length ≤ 65536 := by
  obtain ⟨h1, k, v, _, h2, _⟩ := (alB_spec t).1 h
  exact ⟨h2, h1⟩
theorem measW {n i : Nat} (h : i < n) : n - (intOf (.int .i64 ((i + 1 : Nat) : Int))).toNat < n - (intOf (.int .i64 (i : Int))).toNat := by
  simp [intOf]
  omega
set_option maxRecDepth 100000 in
set_option maxHeartbeats 4000000 in
theorem wellFormed_any (p : Option Addr) (n cp : Nat) (X : Nat → Tk) (hn : n ≤ 1000000000000) (hr : ∀ i, i < n → TkR (X i)) (w : World) (g : Gr w) (hin : TX w p n X) : Calls Tryz.prog 27 #[.slice p n cp] w fun e w' => e = .returned (.bool (wfB X n)) ∧ Below w.heap.size w w' := by
  have HI : Hid (TX w p n X) := hin
  have HR : Hid (∀ i, i < n → TkR (X i)) := hr
  have HG : Hid (Gr w) := g
  clear hin hr g
  go_enter Tryz.func27, Tryz.ntmps27
  go_wp2
  go_loopw [7] (fun v wr => ∃ i : Nat, v = .int .i64 (i : Int) ∧ i ≤ n ∧ (∀ j, j < i → okT X j = true) ∧ Below w.heap.size w wr) (fun v _ => n - (intOf v).toNat)
  case atStart => exact ⟨0, rfl, Nat.zero_le _, fun j hj => by omega, Below.refl _ _⟩
  case round =>
    obtain ⟨i, rfl, hi, hok, hbel⟩ := hrel
    by_cases hlt : i < n
    case neg =>
      have dl : decide ((i : Int) < (n : Int)) = false := decide_eq_false (by omega)
      have dl2 : decide (i < n) = false := decide_eq_false hlt
      obtain rfl : i = n := by omega
      have HOK := wf_yes hok
      have HOKH : Hid (wfB X i = true) := HOK
      clear HOK hok
      go_wp2
      go_ret
      exact ⟨by rw [HOKH.out]; first | rfl | simp, hbel⟩
    case pos =>
      have dl : decide ((i : Int) < (n : Int)) = true := decide_eq_true (by omega)
      have dl2 : decide (i < n) = true := decide_eq_true hlt
      have hm := measW hlt
      have i0 : (0 : Int) ≤ (i : Int) := by omega
      have i1 : (i : Int) < (n : Int) := by omega
      have ei : IntKind.i64.wrap ((i : Int) + 1) = ((i + 1 : Nat) : Int) := by rw [IntKind.wrap_i64]; omega
      obtain hx | ⟨b, o, rfl, hbl, hc⟩ := HI.out.below hbel
      · omega
      obtain ⟨x0, x1, x2, x3, x4⟩ := TX.at hc hlt
      obtain ⟨t, hte⟩ : ∃ t, X i = t := ⟨_, rfl⟩
      rw [hte] at x0 x1 x2 x3 x4
      have htr := HR.out i hlt
      rw [hte] at htr
      have HT : Hid (X i = t) := hte
      obtain ⟨wx, hwx⟩ : ∃ wx, wr.alloc (.cells #[.int .i64 t.kind, .string ⟨t.text.toArray⟩, .int .u64 (t.num : Int), .int .i64 t.line, .int .i64 t.col] 40) = wx := ⟨_, rfl⟩
      have hbx : Below wr.heap.size wr wx := by rw [← hwx]; exact (Below.refl _ wr).alloc (Nat.le_refl _) _
      have hxb : wx.heap[wr.heap.size]? = some (.cells #[.int .i64 t.kind, .string ⟨t.text.toArray⟩, .int .u64 (t.num : Int), .int .i64 t.line, .int .i64 t.col] 40 (0, 0)) := by rw [← hwx]; exact World.alloc_heap_new wr _
      have hbw : Below w.heap.size w wx := hbel.trans (hbx.mono hbel.size)
      obtain ⟨y0, y1, y2, y3, y4⟩ := cells5 hxb
      have HW : Hid (Below w.heap.size w wx ∧ wx.heap[wr.heap.size]? = some (.cells #[.int .i64 t.kind, .string ⟨t.text.toArray⟩, .int .u64 (t.num : Int), .int .i64 t.line, .int .i64 t.col] 40 (0, 0)) ∧ wr.heap.size < wx.heap.size ∧ (∀ j r, j < n → r < 5 → wx.cell? ⟨b, o + j * 5 + r, none⟩ = some ((tkCells (X j)).getD r undef)) ∧ b < wx.heap.size ∧ (∀ j, j < i → okT X j = true)) := ⟨hbw, hxb, (Array.getElem?_eq_some_iff.1 hxb).1, fun j r hj hr => (World.cell?_of_block (a := ⟨b, o + j * 5 + r, none⟩) (hbx.block b hbl)).trans (hc j r hj hr), Nat.lt_of_lt_of_le hbl hbx.size, hok⟩
      have HA : Hid (Calls Tryz.prog 38 #[.agg #[.int .i64 t.kind, .string ⟨t.text.toArray⟩, .int .u64 (t.num : Int), .int .i64 t.line, .int .i64 t.col]] wx fun e w' => e = .returned (.bool (alB t)) ∧ Below wx.heap.size wx w') := standsAlone_any t htr.x wx (HG.out.keep hbw)
      have HNO : Hid (okT X i = false → wfB X n = false) := fun h => wf_no hlt h
      clear hbx hxb hbw hc hok hbel hte hbl
      by_cases h1 : 1 ≤ t.line
      case neg =>
        have e1 : decide (t.line < 1) = true := decide_eq_true (by omega)
        have HZ : Hid (wfB X n = false) := HNO.out (by unfold okT; rw [HT.out, decide_eq_false h1, Bool.false_and])
        clear h1 HNO htr
        go_wp2
        go_ret
        exact ⟨by rw [HZ.out]; first | rfl | simp, HW.out.1⟩
      case pos =>
        have e1 : decide (t.line < 1) = false := decide_eq_false (by omega)
        by_cases h2 : 1 ≤ t.col
        case neg =>
          have e2 : decide (t.col < 1) = true := decide_eq_true (by omega)
          have HZ : Hid (wfB X n = false) := HNO.out (by unfold okT; rw [HT.out, decide_eq_false h2, Bool.false_and, Bool.and_false])
          clear h1 h2 HNO htr
          go_wp2
          go_ret
          exact ⟨by rw [HZ.out]; first | rfl | simp, HW.out.1⟩
        case pos =>
          have e2 : decide (t.col < 1) = false := decide_eq_false (by omega)
          cases hal : alB t with
          | false =>
            rw [hal] at HA
            have HZ : Hid (wfB X n = false) := HNO.out (by unfold okT; rw [HT.out, hal, Bool.false_and, Bool.and_false, Bool.and_false])
            clear h1 h2 HNO htr hal
            go_wp2_with (go_at_call 38; (with_reducible refine (HA.out).mono ?_); rintro e w2 ⟨rfl, hb2⟩)
            go_ret
            exact ⟨by rw [HZ.out]; first | rfl | simp, HW.out.1.trans (hb2.mono HW.out.1.size)⟩
          | true =>
            rw [hal] at HA
            have HOKF : Hid (flwB (X (i - 1)) t = true ∨ i = 0 → okT X i = true) := fun h => by
              unfold okT
              rw [HT.out, hal, decide_eq_true h1, decide_eq_true h2]
              rcases h with h | h
              · rw [h]; simp
              · rw [decide_eq_true h]; simp
            have HFB : Hid (flwB (X (i - 1)) t = false → i ≠ 0 → wfB X n = false) := fun h h9 => HNO.out (by unfold okT; rw [HT.out, h, decide_eq_false h9]; simp)
            have htx := al_text hal
            have htc : 1 ≤ t.col ∧ t.col ≤ 9223372036854775807 := ⟨h2, htr.c.2⟩
            clear h1 h2 HNO hal
            have HA2 : Hid (Calls Tryz.prog 38 #[.agg #[.int .i64 t.kind, .string ⟨t.text.toArray⟩, .int .u64 (t.num : Int), .int .i64 t.line, .int .i64 t.col]] wx fun e w' => e = .returned (.bool true) ∧ Below w.heap.size w w' ∧ w'.heap[wr.heap.size]? = some (.cells #[.int .i64 t.kind, .string ⟨t.text.toArray⟩, .int .u64 (t.num : Int), .int .i64 t.line, .int .i64 t.col] 40 (0, 0)) ∧ wr.heap.size < w'.heap.size ∧ (∀ j r, j < n → r < 5 → w'.cell? ⟨b, o + j * 5 + r, none⟩ = some ((tkCells (X j)).getD r undef)) ∧ b < w'.heap.size) := by
              refine HA.out.mono fun e w' h9 => ?_
              obtain ⟨k1, k2, k3, k4, k5, k6⟩ := HW.out
              exact ⟨h9.1, k1.trans (h9.2.mono k1.size), (h9.2.block _ k3).trans k2, Nat.lt_of_lt_of_le k3 h9.2.size, fun j r hj hr => (World.cell?_of_block (a := ⟨b, o + j * 5 + r, none⟩) (h9.2.block b k5)).trans (k4 j r hj hr), Nat.lt_of_lt_of_le k5 h9.2.size⟩
            clear HA
            by_cases hi0 : i = 0
            · have d0 : decide ((0 : Int) < (i : Int)) = false := decide_eq_false (by omega)
              have d0' : decide (0 < i) = false := decide_eq_false (by omega)
              have HN : Hid (∀ j, j < i + 1 → okT X j = true) := fun j hj => by
                by_cases e : j = i
                · subst e; exact HOKF.out (.inr hi0)
                · exact HW.out.2.2.2.2.2 j (by omega)
              clear hi0 HOKF HFB htr htx htc
              go_wp2_with (go_at_call 38; (with_reducible refine (HA2.out).mono ?_); rintro e w2 ⟨rfl, hb2, _⟩)
              go_quiet (fail)
              go_wp2
              exact ⟨⟨i + 1, rfl, hlt, HN.out, hb2.trans (below_drq _ _ _)⟩, hm⟩
            · have d0 : decide ((0 : Int) < (i : Int)) = true := decide_eq_true (by omega)
              have d0' : decide (0 < i) = true := decide_eq_true (by omega)
              obtain ⟨i', hi'⟩ : ∃ i', i = i' + 1 := ⟨i - 1, by omega⟩
              have es : IntKind.i64.wrap ((i : Int) - 1) = (i' : Int) := by rw [IntKind.wrap_i64]; omega
              have i2 : (0 : Int) ≤ (i' : Int) := by omega
              have i3 : (i' : Int) < (n : Int) := by omega
              obtain ⟨u, hu⟩ : ∃ u, X i' = u := ⟨_, rfl⟩
              have hi1 : i - 1 = i' := by omega
              rw [hi1, hu] at HOKF HFB
              have hau := (ok_al (HW.out.2.2.2.2.2 i' (by omega))).2.2.1
              rw [hu] at hau
              have hux := al_text hau
              have HF : Hid (∀ W, Below w.heap.size w W → Calls Tryz.prog 39 #[.agg #[.int .i64 u.kind, .string ⟨u.text.toArray⟩, .int .u64 (u.num : Int), .int .i64 u.line, .int .i64 u.col], .agg #[.int .i64 t.kind, .string ⟨t.text.toArray⟩, .int .u64 (t.num : Int), .int .i64 t.line, .int .i64 t.col]] W fun e w' => e = .returned (.bool (flwB u t)) ∧ Below W.heap.size W w') := fun W hW => follows_any u t htx.1 hux.1 hux.2 htx.2 htc W (HG.out.keep hW)
              obtain ⟨fl, hfl⟩ : ∃ fl, flwB u t = fl := ⟨_, rfl⟩
              rw [hfl] at HF HOKF HFB
              have hu9 : i' < n := by omega
              have HU : Hid (X i' = u) := hu
              have HI0 : Hid (i ≠ 0) := hi0
              clear hi0 htr htx htc hau hux hi1 hu hfl hi'
              go_wp2_with (go_at_call 38; (with_reducible refine (HA2.out).mono ?_); rintro e w2 ⟨rfl, hb2, hx2, hl2, hc2, hbl2⟩)
              have hS : ∀ W, Below w2.heap.size w2 W → ((W.cell? ⟨b, o + i' * 5, none⟩ = some (.int .i64 u.kind) ∧ W.cell? ⟨b, o + i' * 5 + 1, none⟩ = some (.string ⟨u.text.toArray⟩) ∧ W.cell? ⟨b, o + i' * 5 + 2, none⟩ = some (.int .u64 (u.num : Int)) ∧ W.cell? ⟨b, o + i' * 5 + 3, none⟩ = some (.int .i64 u.line) ∧ W.cell? ⟨b, o + i' * 5 + 4, none⟩ = some (.int .i64 u.col)) ∧ (W.cell? ⟨wr.heap.size, 0, none⟩ = some (.int .i64 t.kind) ∧ W.cell? ⟨wr.heap.size, 1, none⟩ = some (.string ⟨t.text.toArray⟩) ∧ W.cell? ⟨wr.heap.size, 2, none⟩ = some (.int .u64 (t.num : Int)) ∧ W.cell? ⟨wr.heap.size, 3, none⟩ = some (.int .i64 t.line) ∧ W.cell? ⟨wr.heap.size, 4, none⟩ = some (.int .i64 t.col))) := fun W hW => by
                have h9 := TX.at (W := W) (X := X) (fun j r hj hr => (World.cell?_of_block (a := ⟨b, o + j * 5 + r, none⟩) (hW.block b hbl2)).trans (hc2 j r hj hr)) hu9
                rw [HU.out] at h9
                exact ⟨h9, cells5 ((hW.block _ hl2).trans hx2)⟩
              have s0 := hS w2.drew (Below.refl _ w2).drew
              have HSS : Hid (∀ W, Below w2.heap.size w2 W → _) := hS
              have HBF : Hid (Below w.heap.size w w2 ∧ Below w2.heap.size w2 w2.drew ∧ Below w.heap.size w w2.drew) := ⟨hb2, (Below.refl _ w2).drew, hb2.drew⟩
              clear hS hx2 hl2 hc2 hbl2 hb2 x0 x1 x2 x3 x4 y0 y1 y2 y3 y4
              go_region_held3 (fun W => (W.cell? ⟨b, o + i' * 5, none⟩ = some (.int .i64 u.kind) ∧ W.cell? ⟨b, o + i' * 5 + 1, none⟩ = some (.string ⟨u.text.toArray⟩) ∧ W.cell? ⟨b, o + i' * 5 + 2, none⟩ = some (.int .u64 (u.num : Int)) ∧ W.cell? ⟨b, o + i' * 5 + 3, none⟩ = some (.int .i64 u.line) ∧ W.cell? ⟨b, o + i' * 5 + 4, none⟩ = some (.int .i64 u.col)) ∧ (W.cell? ⟨wr.heap.size, 0, none⟩ = some (.int .i64 t.kind) ∧ W.cell? ⟨wr.heap.size, 1, none⟩ = some (.string ⟨t.text.toArray⟩) ∧ W.cell? ⟨wr.heap.size, 2, none⟩ = some (.int .u64 (t.num : Int)) ∧ W.cell? ⟨wr.heap.size, 3, none⟩ = some (.int .i64 t.line) ∧ W.cell? ⟨wr.heap.size, 4, none⟩ = some (.int .i64 t.col))) (first | exact s0 | exact s7 | go_keep) ((go_at_call 39; (with_reducible refine (HF.out _ HBF.out.2.2).mono ?_); rintro e9 w9 ⟨rfl, hb9⟩; have hb99 : Below w2.heap.size w2 w9 := HBF.out.2.1.trans hb9; have s7 := HSS.out w9 hb99))
              all_goals
                have hbF : Below w.heap.size w w9 := HBF.out.1.trans (hb99.mono HBF.out.1.size)
                clear HSS HF s7 s0
                cases fl with
                | true =>
                  have HN : Hid (∀ j, j < i + 1 → okT X j = true) := fun j hj => by
                    by_cases e : j = i
                    · subst e; exact HOKF.out (.inl rfl)
                    · exact HW.out.2.2.2.2.2 j (by omega)
                  clear HOKF HFB
                  go_wp2
                  first
                    | exact ⟨⟨i + 1, rfl, hlt, HN.out, hbF⟩, hm⟩
                    | exact ⟨⟨_, _, _, _, _, _, _, _, _, _, _, _, _, _, _, _, _, _, _, _, _, _, _, _, _, _, _, _, _, _, _, _, _, _, ⟨⟨i + 1, rfl, hlt, HN.out, hbF⟩, rfl⟩⟩, hm⟩
                | false =>
                  have HZ : Hid (wfB X n = false) := HFB.out rfl HI0.out
                  clear HOKF HFB
                  go_wp2
                  go_ret
                  exact ⟨by rw [HZ.out]; first | rfl | simp, hbF⟩
end Go.Proofs.YtmekcccmnkgodaaGreatDoor
