import Derived.Test.YtcifdlncbekohaaDoorRO2
import Derived.Test.YtcifdlncbekohaaDoorFS1
import Derived.Test.YtcifdlncbekohaaDoorAZ
import Derived.Deep.Upon
import Derived.Lib.AppendZeros
namespace Go.Proofs.YtcifdlncbekohaaDoor
open Go.ChangeShapes Go.WideShapes Go.ChangeAt Go.RowKit
set_option linter.unusedVariables false
set_option linter.unusedSimpArgs false

theorem seF_onesX (c : Nat → Se) (n : Nat) : ∀ u ∈ cellsF (seF c) n, u.oneCell' = true := fun u hu => by
  obtain ⟨k, hk, rfl⟩ := List.getElem_of_mem hu
  rw [cellsF_len] at hk
  have h1 := cellsF_at (seF c) hk
  rw [List.getElem?_eq_getElem (by rw [cellsF_len]; exact hk)] at h1
  rw [Option.some.inj h1]
  exact seF_one c k
/-! ### events that lie somewhere, appended to a row of the call's own -/
def catS (O X : Nat → Se) (n : Nat) : Nat → Se := fun t => if t < n then O t else X (t - n)
theorem catS_cells (O X : Nat → Se) (n m : Nat) : cellsF (seF O) (n * 6) ++ cellsF (seF X) (m * 6) = cellsF (seF (catS O X n)) ((n + m) * 6) := by
  rw [cellsF_append, Nat.add_mul]
  refine cellsF_congr fun j hj => ?_
  by_cases h : j < n * 6
  · rw [if_pos h]
    unfold seF catS
    rw [if_pos (by omega)]
  · rw [if_neg h]
    unfold seF catS
    rw [if_neg (by omega), show (j - n * 6) / 6 = j / 6 - n by omega, show (j - n * 6) % 6 = j % 6 by omega]
theorem grown_refl (w : World) (r : Option Nat) : w.grownBy w r := ⟨rfl, rfl, rfl, Nat.le_refl _, fun _ _ _ => rfl⟩
theorem app_in (w : World) (base : Nat) (ty : TypeId) (v : Value) (n : Nat) (O : Nat → Se) (p : Option Addr) (m c : Nat) (X : Nat → Se) (ho : Own w base 36 6 v n (seF O)) (hs : SIn w p m X) (hnm : n + m ≤ 1000000000000) (hb : base ≤ w.heap.size) :
    ∃ v' w', (Builtin.append_ #[24, 24] ty #[v, .slice p m c]).run Tryd.prog w = .ok v' w' ∧ Own w' base 36 6 v' (n + m) (seF (catS O X n)) ∧ w.grownBy w' v.ownBlock ∧ (v'.ownBlock = v.ownBlock ∨ v'.ownBlock = some w.heap.size) := by
  obtain ⟨iE, hE1, hE2, hE3, hE4⟩ := sinfo infoSE
  by_cases h0 : m = 0
  · subst h0
    obtain ⟨vp, vc, rfl⟩ := own_slice ho
    have hle : n ≤ vc := by
      rcases ho.form with ⟨h1, h2⟩ | ⟨g, c', h1, _, _⟩
      · omega
      · rw [h1] at ho
        obtain ⟨_, _, _, h5, _⟩ := Own.block ho
        injection h1 with e1 e2 e3
        omega
    refine ⟨.slice vp n vc, w, ?_, ?_, grown_refl _ _, .inl rfl⟩
    · refine run_append_nothing w 24 24 ty 36 iE Tryd.underlying24 hE1 vp n vc hle (.slice p 0 c) ?_
      cases p with
      | none => exact Src.ofNil w Tryd.underlying24 c
      | some a => exact Src.ofSlice w Tryd.underlying24 a 0 c [] (by simp) (fun j u h => by simp at h) (fun u h => by cases h)
    · refine ho.congr fun j hj => ?_
      unfold seF catS
      rw [if_pos (by omega)]
  · rcases hs with h | ⟨b, o, rfl, hlt, hc⟩
    · exact absurd h h0
    have hnews : ∀ j u, (cellsF (seF X) (m * 6))[j]? = some u → w.cell? ((⟨b, o, none⟩ : Addr).add j) = some u := fun j u hu => by
      have hj : j < m * 6 := by
        have := (List.getElem?_eq_some_iff.1 hu).1
        rwa [cellsF_len] at this
      rw [cellsF_at _ hj] at hu
      cases hu
      rw [addr_add0]
      exact hc j hj
    obtain ⟨v', w', hr, h2, h3, h4, h5⟩ := run_append_own_at (P := Tryd.prog) w base 24 ty 36 iE _ 6 48 Tryd.underlying24 hE1 hE2 hE3 hE4 rfl (by decide) v n _ ho ⟨b, o, none⟩ m c (cellsF (seF X) (m * 6)) (cellsF_len _ _) hnews (seF_onesX X _) (by unfold maxLen; omega) (by omega) hb
    refine ⟨v', w', hr, ?_, h3, h5⟩
    unfold Own
    rw [← catS_cells]
    exact h2
set_option linter.unusedVariables false
set_option linter.unusedSimpArgs false

def zeSM : Se := ⟨0, 0, 0, 0, 0, 0⟩
def zeroCM (x : Nat) : Value :=
  match x % 6 with
  | 0 => .int .u64 0
  | 2 => .int .u64 0
  | _ => .int .i64 0
def zEvM : Value := .agg #[.int .u64 0, .int .i64 0, .int .u64 0, .int .i64 0, .int .i64 0, .int .i64 0]
theorem mod6M (x : Nat) : x % 6 = 0 ∨ x % 6 = 1 ∨ x % 6 = 2 ∨ x % 6 = 3 ∨ x % 6 = 4 ∨ x % 6 = 5 := by omega
theorem zeroC_eqM (x : Nat) : zEvM.cells[x % zEvM.cells.size]! = zeroCM x := by
  have h6 : zEvM.cells.size = 6 := rfl
  rw [h6]
  unfold zeroCM
  rcases mod6M x with h | h | h | h | h | h <;> rw [h] <;> rfl
theorem zeros_eqM (k : Nat) : (Builtin.zeroCells zEvM.cells k).toList = cellsF zeroCM (k * 6) := by
  unfold Builtin.zeroCells
  rw [Array.toList_map, Array.toList_range]
  have h6 : zEvM.cells.size = 6 := rfl
  rw [h6]
  exact cellsF_congr (fun j _ => zeroC_eqM j)
theorem zeroC_oneM (x : Nat) : (zeroCM x).oneCell' = true := by
  unfold zeroCM
  split <;> rfl
theorem infoPM {i? : Option TypeInfo} {z : Value} {s b : Nat} (h : i?.map (fun i => (i.zero, i.size, i.bytes)) = some (some z, s, b)) : ∃ i, i? = some i ∧ i.zero = some z ∧ i.size = s ∧ i.bytes = b := by
  cases i? with
  | none => cases h
  | some i =>
    simp at h
    exact ⟨i, rfl, h.1, h.2.1, h.2.2⟩
/-! ### lists of events -/
structure LsP where
  p : Option Addr
  c : Nat
  n : Nat
  X : Nat → Se
def LsIn (W : World) (p : Option Addr) (m : Nat) (Y : Nat → LsP) : Prop := (m = 0 ∨ ∃ b o, p = some ⟨b, o, none⟩ ∧ b < W.heap.size ∧ ∀ k, k < m → W.cell? ⟨b, o + k, none⟩ = some (.slice (Y k).p (Y k).n (Y k).c)) ∧ ∀ k, k < m → SIn W (Y k).p (Y k).n (Y k).X
theorem LsIn.below {W W' : World} {p : Option Addr} {m : Nat} {Y : Nat → LsP} (h : LsIn W p m Y) (hb : Below W.heap.size W W') : LsIn W' p m Y := by
  refine ⟨?_, fun k hk => (h.2 k hk).below hb⟩
  rcases h.1 with h | ⟨b, o, h1, h2, h3⟩
  · exact .inl h
  · exact .inr ⟨b, o, h1, Nat.lt_of_lt_of_le h2 hb.size, fun k hk => (cell_below (a := ⟨b, o + k, none⟩) hb h2).trans (h3 k hk)⟩
def offL (Y : Nat → LsP) : Nat → Nat
  | 0 => 0
  | k + 1 => offL Y k + (Y k).n
def catL (Y : Nat → LsP) : Nat → Nat → Se
  | 0 => fun _ => zeSM
  | k + 1 => catS (catL Y k) (Y k).X (offL Y k)
theorem offL_mono (Y : Nat → LsP) {j k : Nat} (h : j ≤ k) : offL Y j ≤ offL Y k := by
  induction k with
  | zero => rw [show j = 0 by omega]; exact Nat.le_refl _
  | succ k ih =>
    by_cases e : j = k + 1
    · rw [e]; exact Nat.le_refl _
    · have := ih (by omega)
      show offL Y j ≤ offL Y k + (Y k).n
      omega
/-! ### the document's Merge -/
theorem own_cut0 {W : World} {base g m c : Nat} {F G : Nat → Value} {t : TypeId} {s : Nat} (h : Own W base t s (.slice (some ⟨g, 0, none⟩) m c) m F) : Own W base t s (.slice (some ⟨g, 0, none⟩) 0 c) 0 G := by
  obtain ⟨cur, h1, h2, h3, h4, h5, h6⟩ := Own.block h
  exact Own.mk' h1 h2 (Nat.zero_le _) h4 h5 fun j hj => by omega
theorem zeros_one' (n : Nat) : ∀ u ∈ (Builtin.zeroCells zEvM.cells n).toList, u.oneCell' = true := fun u hu => by
  rw [zeros_eqM] at hu
  unfold cellsF at hu
  obtain ⟨x, _, rfl⟩ := List.mem_map.1 hu
  exact zeroC_oneM x
set_option maxRecDepth 100000 in
set_option maxHeartbeats 4000000 in
theorem grow_any (n : Nat) (hn : n ≤ 1000000000000) (w : World) : Calls Tryd.prog 32 #[.slice none 0 0, .int .i64 (n : Int)] w fun e w' => ∃ v, e = .returned v ∧ Own w' w.heap.size 36 6 v 0 (seF (fun _ => zeSM)) ∧ Below w.heap.size w w' := by
  have d0 : decide ((n : Int) < 0) = false := by simp
  by_cases h0 : n = 0
  · subst h0
    go_enter Tryd.func32, Tryd.ntmps32
    go_wp2_with fail
    go_ret
    exact ⟨_, rfl, World.ownsRow_nil _ _ _ _, Below.refl _ _⟩
  · obtain ⟨iE, hE1, hE2, hE3, hE4⟩ := infoPM infoSE
    have d1 : decide ((0 : Int) < (n : Int)) = true := by simp; omega
    have e1 : IntKind.i64.wrap ((n : Int) - 0) = (n : Int) := by rw [IntKind.wrap_i64]; omega
    have e2 : IntKind.i64.wrap (n : Int) = (n : Int) := by rw [IntKind.wrap_i64]; omega
    obtain ⟨v', w', hr, h2, h3, h4, h5⟩ := run_append_own_zeros (P := Tryd.prog) w w.heap.size 24 3 24 36 iE zEvM .i64 .i64 6 48 Tryd.underlying24 Tryd.underlying3 hE1 hE2 hE3 hE4 rfl (by decide) (.slice none 0 0) 0 [] (World.ownsRow_nil _ _ _ _) n (by omega) (zeros_one' n) (by unfold maxLen; omega) (by omega) (Nat.le_refl _)
    have hb' : Below w.heap.size w w' := (Below.refl _ w).grown h3 (Nat.le_refl _) (fun k hk => by cases hk)
    have ho := own_of_row h2
    rw [Nat.zero_add] at ho
    obtain ⟨g, c, rfl⟩ : ∃ g c, v' = .slice (some ⟨g, 0, none⟩) n c := by
      rcases ho.form with ⟨h1, h2⟩ | ⟨g, c', h1, _, _⟩
      · omega
      · exact ⟨g, c', h1⟩
    have hcut : Hid (Own w' w.heap.size 36 6 (.slice (some ⟨g, 0, none⟩) 0 c) 0 (seF (fun _ => zeSM)) ∧ Below w.heap.size w w') := ⟨own_cut0 ho, hb'⟩
    have hcn : n ≤ c := by
      obtain ⟨_, _, _, h9, _⟩ := Own.block ho
      exact h9
    clear h2 h3 h4 h5 ho hb'
    go_enter Tryd.func32, Tryd.ntmps32
    go_wp2_with (at_builtin; refine Lib.wpList_append_run _ rfl _ _ 24 3 rfl _ _ rfl rfl _ _ hr ?_)
    go_ret
    exact ⟨_, rfl, hcut.out⟩
set_option maxRecDepth 100000 in
set_option maxHeartbeats 4000000 in
theorem concat_any (p : Option Addr) (m cp : Nat) (Y : Nat → LsP) (hm : m ≤ 1000000000000) (hn : offL Y m ≤ 1000000000000) (w : World) (h : LsIn w p m Y) : Calls Tryd.prog 17 #[.slice p m cp] w fun e w' => ∃ v, e = .returned v ∧ Own w' w.heap.size 36 6 v (offL Y m) (seF (catL Y m)) ∧ Below w.heap.size w w' := by
  have HH : Hid (LsIn w p m Y) := h
  clear h
  go_enter Tryd.func17, Tryd.ntmps17
  go_wp2_with fail
  go_loopw [3, 11] (fun v x wr => ∃ k : Nat, x = .int .i64 (k : Int) ∧ k ≤ m ∧ v = .int .i64 (offL Y k : Nat) ∧ wr = w) (fun _ x _ => m - (intOf x).toNat)
  case atStart => exact ⟨0, rfl, Nat.zero_le _, rfl, rfl⟩
  case round =>
    obtain ⟨k, rfl, hk, rfl, hw⟩ := hrel
    subst wr
    by_cases hlt : k < m
    · have dlt : decide ((k : Int) < (m : Int)) = true := by simp; omega
      have i0 : (0 : Int) ≤ (k : Int) := by omega
      have i1 : (k : Int) < (m : Int) := by omega
      have ei : IntKind.i64.wrap ((k : Int) + 1) = (k : Int) + 1 := by rw [IntKind.wrap_i64]; omega
      have hme := meas hlt
      rcases HH.out.1 with hz | ⟨b, o, hp, hlb, hc⟩
      · omega
      have c0 := hc k hlt
      have hof : offL Y (k + 1) ≤ offL Y m := offL_mono Y hlt
      have hofk : offL Y (k + 1) = offL Y k + (Y k).n := rfl
      obtain ⟨a, ha⟩ : ∃ a, offL Y k = a := ⟨_, rfl⟩
      obtain ⟨z, hz⟩ : ∃ z, offL Y (k + 1) = z := ⟨_, rfl⟩
      rw [ha, hz] at hofk
      rw [hz] at hof
      have es : IntKind.i64.wrap ((a : Int) + ((Y k).n : Int)) = (z : Int) := by rw [IntKind.wrap_i64]; omega
      have ds : decide ((z : Int) < 0) = false := by simp
      have HZ : Hid (offL Y (k + 1) = z) := hz
      rw [hp, ha]
      clear hc hlb hof hofk hp ha hz
      go_wp2_with fail
      exact ⟨⟨k + 1, rfl, hlt, by rw [HZ.out], trivial⟩, hme⟩
    · have dlt : decide ((k : Int) < (m : Int)) = false := by simp; omega
      obtain rfl : k = m := by omega
      have HG := grow_any (offL Y k) hn w
      go_wp2_with (go_at_call 32; (with_reducible refine HG.mono ?_); rintro e9 w3 ⟨gv, rfl, h5, h6⟩)
      have HG3 : Hid (Own w3 w.heap.size 36 6 gv 0 (seF (fun _ => zeSM)) ∧ Below w.heap.size w w3) := ⟨h5, h6⟩
      clear h5 h6
      go_loopw [6, 27] (fun v x wr => ∃ j : Nat, x = .int .i64 (j : Int) ∧ j ≤ k ∧ Own wr w.heap.size 36 6 v (offL Y j) (seF (catL Y j)) ∧ Below w.heap.size w wr) (fun _ x _ => k - (intOf x).toNat)
      case atStart => exact ⟨0, rfl, Nat.zero_le _, HG3.out.1, HG3.out.2⟩
      case round =>
        obtain ⟨j, rfl, hj, ho, hb⟩ := hrel
        by_cases hlt : j < k
        · have dlt : decide ((j : Int) < (k : Int)) = true := by simp; omega
          have i0 : (0 : Int) ≤ (j : Int) := by omega
          have i1 : (j : Int) < (k : Int) := by omega
          have ei : IntKind.i64.wrap ((j : Int) + 1) = (j : Int) + 1 := by rw [IntKind.wrap_i64]; omega
          have hme := meas hlt
          have hl := HH.out.below hb
          rcases hl.1 with hz | ⟨b, o, hp, hlb, hc⟩
          · omega
          have c0 := hc j hlt
          have hof : offL Y (j + 1) ≤ offL Y k := offL_mono Y hlt
          obtain ⟨v', w', hr, h2, h3, h4⟩ := app_in wr w.heap.size 24 u6 (offL Y j) (catL Y j) (Y j).p (Y j).n (Y j).c (Y j).X ho (hl.2 j hlt) (by have : offL Y (j + 1) = offL Y j + (Y j).n := rfl; omega) hb.size
          have hb' : Below w.heap.size w w' := hb.grown h3 hb.size (fun r' e => (Own.lt ho r' e).1)
          have H2 : Hid (Own w' w.heap.size 36 6 v' (offL Y (j + 1)) (seF (catL Y (j + 1))) ∧ Below w.heap.size w w') := ⟨h2, hb'⟩
          rw [hp]
          clear hl hc hlb h2 h3 h4 hb' ho hb hof hp
          go_wp2_with (at_builtin; refine Lib.wpList_append_run _ rfl _ _ 24 24 rfl _ _ rfl rfl _ _ hr ?_)
          exact ⟨⟨j + 1, rfl, hlt, H2.out⟩, hme⟩
        · have dlt : decide ((j : Int) < (k : Int)) = false := by simp; omega
          obtain rfl : j = k := by omega
          have HF : Hid (Own wr w.heap.size 36 6 u6 (offL Y j) (seF (catL Y j)) ∧ Below w.heap.size w wr) := ⟨ho, hb⟩
          clear ho hb
          go_wp2_with fail
          go_ret
          exact ⟨_, rfl, HF.out⟩
set_option maxRecDepth 100000 in
set_option maxHeartbeats 4000000 in
theorem merge_any (p : Option Addr) (m cp : Nat) (Y : Nat → LsP) (hm : m ≤ 1000000000000) (hn : offL Y m ≤ 1000000000000) (w : World) (h : LsIn w p m Y) : Calls Tryd.prog 4 #[.slice p m cp] w fun e w' => ∃ g d, e = .returned (.slice (some ⟨g, 0, none⟩) (offL Y m) (offL Y m)) ∧ SRow w' w.heap.size g (offL Y m) (offL Y m) d ∧ Stb klt 0 (offL Y m) (catL Y m) d ∧ Srt klt 0 (offL Y m) d ∧ Below w.heap.size w w' := by
  have HC := concat_any p m cp Y hm hn w h
  obtain ⟨n, hnn⟩ : ∃ n, offL Y m = n := ⟨_, rfl⟩
  rw [hnn] at HC hn ⊢
  clear hnn h
  go_enter Tryd.func4, Tryd.ntmps4
  go_wp2_with (first | (go_at_call 17; (with_reducible refine HC.mono ?_); rintro e1 w1 ⟨v, rfl, h1, h2⟩; obtain ⟨vp, vc, rfl⟩ := own_slice h1; have HO := order_any vp n vc (catL Y m) (by omega) w1 (own_sin0 h1); have HB : Hid (Below w.heap.size w w1) := h2; clear h1 h2) | (go_at_call 16; (with_reducible refine HO.mono ?_); rintro e2 w2 ⟨g, d, rfl, h5⟩; have H5 : Hid (SRow w2 w1.heap.size g n n d ∧ Stb klt 0 n (catL Y m) d ∧ Srt klt 0 n d ∧ Below w1.heap.size w1 w2) := h5; clear h5))
  go_ret
  exact ⟨g, d, rfl, Own.lower H5.out.1 HB.out.size, H5.out.2.1, H5.out.2.2.1, HB.out.trans (H5.out.2.2.2.mono HB.out.size)⟩
end Go.Proofs.YtcifdlncbekohaaDoor
