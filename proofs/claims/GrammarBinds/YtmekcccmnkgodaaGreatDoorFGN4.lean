import Derived.Test.YtmekcccmnkgodaaGreatDoorFGB6
import Derived.Test.YtmekcccmnkgodaaGreatDoorFLMark
import Derived.Test.YtmekcccmnkgodaaGreatDoorFGPI
import Derived.BigQuiet
namespace Go.Proofs.YtmekcccmnkgodaaGreatDoor
open Go.ChangeShapes Go.WideShapes Go.ChangeAt Go.RowKit
set_option linter.unusedVariables false
set_option linter.unusedSimpArgs false
set_option maxRecDepth 100000
/-! ### how two operators bind: what is read -/
theorem spl_two : ((List.range 20).all fun k => decide ((spl (60 + k)).length ≤ 2)) = true := by decide +kernel
theorem spl_len {k : Nat} (hk : k < 20) : (spl (60 + k)).length ≤ 2 := of_decide_eq_true (List.all_eq_true.1 spl_two k (List.mem_range.2 hk))
def unO (u : Nat) : Nat := [74, 78, 79].getD u 0
theorem unO_len (u : Nat) (hu : u < 3) : (spl (unO u)).length ≤ 2 := by
  rcases (by omega : u = 0 ∨ u = 1 ∨ u = 2) with rfl | rfl | rfl <;> decide +kernel
theorem bText_len (x y u : Nat) (hx : x < 18) (hy : y < 18) (hu : u < 3) : (bText x y u).length < 40 := by
  have h1 := spl_len (k := x) (by omega)
  have h2 := spl_len (k := y) (by omega)
  have h3 := unO_len u hu
  unfold bText
  have h4 : ([74, 78, 79].getD u 0 : Nat) = unO u := rfl
  rw [h4]
  simp only [List.length_append, List.length_cons, List.length_nil]
  omega
def bKO (x y u : Nat) : List (Int × Int) := if strong x < strong y
      then [((1 : Int), (0 : Int)), (3, 0), ((43 : Int), ((60 + x : Nat) : Int)), (44, ((unO u : Nat) : Int)), (41, 0), ((43 : Int), ((60 + y : Nat) : Int)), (41, 0), (41, 0)]
      else [((1 : Int), (0 : Int)), (3, 0), ((43 : Int), ((60 + y : Nat) : Int)), ((43 : Int), ((60 + x : Nat) : Int)), (44, ((unO u : Nat) : Int)), (41, 0), (41, 0), (41, 0)]
theorem bind_scan (x y u : Nat) (hx : x < 18) (hy : y < 18) (hu : u < 3) : scanT (bText x y u) = bToks x y u := by
  have h := bText_len x y u hx hy hu
  unfold scanT bToks
  rw [if_neg (by omega), scanF_eq 40 _ 1 1 0 h]
theorem bind_res (x y u : Nat) (hx : x < 18) (hy : y < 18) (hu : u < 3) : (bToks x y u).2 = none ∧ (bToks x y u).1.length = 9 ∧ ((strong x = 3 ∧ strong y = 3 ∧ ∃ l o, prsR (bText x y u) 219 = .er 40 l o) ∨ (¬ (strong x = 3 ∧ strong y = 3) ∧ ∃ T, prsR (bText x y u) 219 = .tr T ∧ T.length = 8 ∧ T.map (fun d => (d.kind, d.op)) = bKO x y u)) := by
  have hb := binds_ok x y u hx hy hu
  unfold bOk at hb
  rw [Bool.and_eq_true, Bool.and_eq_true] at hb
  obtain ⟨h1, h2, h3⟩ := hb
  have h1 := of_decide_eq_true h1
  have h2 := of_decide_eq_true h2
  refine ⟨h1, h2, ?_⟩
  unfold prsR
  rw [bind_scan x y u hx hy hu, h1]
  dsimp only
  unfold bldR
  have hB : Bld (fun i => (bToks x y u).1.getD i nT) (bToks x y u).1.length 219 = bRun x y u := by
    unfold Bld bRun
    rw [if_neg (by omega)]
  rw [hB]
  cases hr : bRun x y u with
  | out => rw [hr] at h3; cases h3
  | bad e =>
    rw [hr] at h3
    obtain ⟨a1, a2, a3⟩ := of_decide_eq_true h3
    refine .inl ⟨a1, a2, e.line, e.col, ?_⟩
    show Res.er e.code e.line e.col = _
    rw [a3]
  | ok s v =>
    rw [hr] at h3 hB
    dsimp only at h3
    rw [Bool.and_eq_true, Bool.and_eq_true] at h3
    obtain ⟨b1, b2, b3⟩ := h3
    obtain ⟨d, hW⟩ := bld_ok hB
    have hl : s.md.length ≤ 10 := by
      have h9 := hB
      unfold Bld at h9
      rw [if_neg (by omega)] at h9
      have h5 := scene_len (fun i => (bToks x y u).1.getD i nT) (bToks x y u).1.length _ _ _ _ _ (show P (fun i => (bToks x y u).1.getD i nT) (bToks x y u).1.length 219 (.sceneL []) ⟨0, 0, []⟩ = .ok s v from h9) (Nat.zero_le _)
      simp only [List.length_nil] at h5
      omega
    have hS : Sg s.md 0 (hd v + 1) [hd v] := .cons hW.at' hW.sg (.nil _)
    obtain ⟨q', hL'⟩ := hS.layF 10 0 (by have := hW.top; omega)
    have eT : layF s.md 10 (hd v) 0 = trOf s v := by
      have := hW.lay hL'
      rw [← this]
      show _ = layF s.md 10 (hd v) 0 ++ []
      rw [List.append_nil]
    rw [eT] at b2 b3
    have b2 := of_decide_eq_true b2
    refine .inr ⟨?_, trOf s v, rfl, b2, ?_⟩
    · rintro ⟨c1, c2⟩
      rw [c1, c2] at b1
      exact absurd b1 (by decide)
    · unfold bKO
      by_cases q : strong x < strong y
      · rw [if_pos q] at b3 ⊢
        exact of_decide_eq_true b3
      · rw [if_neg q] at b3 ⊢
        exact of_decide_eq_true b3
theorem cat_run (a b : Bs) (h : a.length + b.length ≤ 1000) (W : World) : (Op.stringOp .add ⟨a.toArray⟩ ⟨b.toArray⟩).run Tryz.prog W = .ok (.string ⟨(a ++ b).toArray⟩) W := by
  have haz : (⟨a.toArray⟩ : ByteArray).size = a.length := by simp [ByteArray.size]
  have hbz : (⟨b.toArray⟩ : ByteArray).size = b.length := by simp [ByteArray.size]
  have hs : (⟨a.toArray⟩ : ByteArray).size + (⟨b.toArray⟩ : ByteArray).size ≤ 9223372036854775807 := by omega
  have hc : (⟨a.toArray⟩ ++ ⟨b.toArray⟩ : ByteArray) = ⟨(a ++ b).toArray⟩ := by
    apply ByteArray.ext
    simp [ByteArray.data_append]
  rw [← hc]
  exact run_string_add_sum (P := Tryz.prog) (w := W) _ _ hs
end Go.Proofs.YtmekcccmnkgodaaGreatDoor
namespace Go.Proofs.YtmekcccmnkgodaaGreatDoor
open Go.ChangeShapes Go.WideShapes Go.ChangeAt Go.RowKit
set_option linter.unusedVariables false
set_option linter.unusedSimpArgs false
set_option maxRecDepth 100000
/-- the strengths, as the world holds them -/
def Sg18 (w : World) : Prop := ∀ k, k < 18 → w.cell? ⟨0, k, none⟩ = some (.int .i64 ((strong k : Nat) : Int))
theorem Sg18.keep {w w' : World} (h : Sg18 w) (hb : Below w.heap.size w w') : Sg18 w' := fun k hk => (World.cell?_of_block (a := ⟨0, k, none⟩) (hb.block _ (World.block_lt_of_cell? _ _ (h k hk)))).trans (h k hk)
theorem mod_nat (o : Int) (k : Nat) (h0 : 0 < k) : ∃ m : Nat, m < k ∧ (IntKind.u64.wrap o).tmod (k : Int) = (m : Int) := by
  have h := wrap_u64_nonneg o
  generalize IntKind.u64.wrap o = U at h ⊢
  rw [Int.tmod_eq_emod_of_nonneg h]
  have h1 := Int.emod_nonneg U (show ((k : Int)) ≠ 0 by omega)
  have h2 := Int.emod_lt_of_pos U (show (0 : Int) < (k : Int) by omega)
  exact ⟨(U % (k : Int)).toNat, by omega, by omega⟩
theorem w64_inN (n : Int) (h : -9223372036854775808 ≤ n ∧ n ≤ 9223372036854775807) : wrap64 n = n := by unfold wrap64; omega
theorem un_cell (u : Nat) (hu : u < 3) (W : World) : (W.alloc (.cells #[.int .i64 74, .int .i64 78, .int .i64 79] 3)).cell? ⟨W.heap.size, u, none⟩ = some (.int .i64 ((unO u : Nat) : Int)) := by
  have h := World.alloc_heap_new W (.cells #[.int .i64 74, .int .i64 78, .int .i64 79] 3 (0, 0))
  unfold World.cell?
  rw [h]
  rcases (by omega : u = 0 ∨ u = 1 ∨ u = 2) with rfl | rfl | rfl <;> rfl
/-- what the text is made of, step by step -/
structure Txt (x y u : Nat) (m1 m2 m3 s1 s2 s3 s4 s5 s6 : Bs) : Prop where
  e1 : ∀ W, (Op.stringOp .add ⟨#[99, 111, 110, 115, 116, 32, 65, 32, 61, 32]⟩ ⟨m1.toArray⟩).run Tryz.prog W = .ok (.string ⟨s1.toArray⟩) W
  e2 : ∀ W, (Op.stringOp .add ⟨s1.toArray⟩ ⟨#[97, 32]⟩).run Tryz.prog W = .ok (.string ⟨s2.toArray⟩) W
  e3 : ∀ W, (Op.stringOp .add ⟨s2.toArray⟩ ⟨m2.toArray⟩).run Tryz.prog W = .ok (.string ⟨s3.toArray⟩) W
  e4 : ∀ W, (Op.stringOp .add ⟨s3.toArray⟩ ⟨#[32, 98, 32]⟩).run Tryz.prog W = .ok (.string ⟨s4.toArray⟩) W
  e5 : ∀ W, (Op.stringOp .add ⟨s4.toArray⟩ ⟨m3.toArray⟩).run Tryz.prog W = .ok (.string ⟨s5.toArray⟩) W
  e6 : ∀ W, (Op.stringOp .add ⟨s5.toArray⟩ ⟨#[32, 99]⟩).run Tryz.prog W = .ok (.string ⟨s6.toArray⟩) W
  k1 : ∀ W, Sp W → Calls Tryz.prog 12 #[.int .i64 ((unO u : Nat) : Int)] W fun e w' => e = .returned (.string ⟨m1.toArray⟩) ∧ w' = W
  k2 : ∀ W, Sp W → Calls Tryz.prog 12 #[.int .i64 ((60 + x : Nat) : Int)] W fun e w' => e = .returned (.string ⟨m2.toArray⟩) ∧ w' = W
  k3 : ∀ W, Sp W → Calls Tryz.prog 12 #[.int .i64 ((60 + y : Nat) : Int)] W fun e w' => e = .returned (.string ⟨m3.toArray⟩) ∧ w' = W
  tx : s6 = bText x y u
theorem mark_k (k : Nat) (hk : k < 80) (W : World) (g : Sp W) : Calls Tryz.prog 12 #[.int .i64 (k : Int)] W fun e w' => e = .returned (.string ⟨(spl k).toArray⟩) ∧ w' = W := by
  have h := mark_any (k : Int) W g
  have e : splI (k : Int) = spl k := by
    unfold splI
    rw [if_pos (by omega)]
    rfl
  rw [e] at h
  exact h
theorem txt_of (x y u : Nat) (hx : x < 18) (hy : y < 18) (hu : u < 3) : ∃ m1 m2 m3 s1 s2 s3 s4 s5 s6, Txt x y u m1 m2 m3 s1 s2 s3 s4 s5 s6 := by
  have l1 := unO_len u hu
  have l2 := spl_len (k := x) (by omega)
  have l3 := spl_len (k := y) (by omega)
  have hun : unO u < 80 := by rcases (by omega : u = 0 ∨ u = 1 ∨ u = 2) with rfl | rfl | rfl <;> decide
  refine ⟨spl (unO u), spl (60 + x), spl (60 + y), _, _, _, _, _, _, fun W => cat_run [99, 111, 110, 115, 116, 32, 65, 32, 61, 32] _ ?_ W, fun W => cat_run _ [97, 32] ?_ W, fun W => cat_run _ _ ?_ W, fun W => cat_run _ [32, 98, 32] ?_ W, fun W => cat_run _ _ ?_ W, fun W => cat_run _ [32, 99] ?_ W, fun W g => mark_k _ hun W g, fun W g => mark_k _ (by omega) W g, fun W g => mark_k _ (by omega) W g, ?_⟩
  all_goals first | (simp only [List.length_append, List.length_cons, List.length_nil]; omega) | rfl
end Go.Proofs.YtmekcccmnkgodaaGreatDoor
namespace Go.Proofs.YtmekcccmnkgodaaGreatDoor
open Go.ChangeShapes Go.WideShapes Go.ChangeAt Go.RowKit
set_option linter.unusedVariables false
set_option linter.unusedSimpArgs false
set_option maxRecDepth 100000
theorem sml (x k : Nat) (h : x < k) (hk : k ≤ 1000) : wrap64 (x : Int) = (x : Int) ∧ (0 : Int) ≤ (x : Int) ∧ (x : Int) < (k : Int) ∧ wrap64 ((60 + x : Nat) : Int) = ((60 + x : Nat) : Int) ∧ (60 : Int) + (x : Int) = ((60 + x : Nat) : Int) := ⟨w64_inN _ (by omega), by omega, by omega, w64_inN _ (by omega), by omega⟩
set_option maxHeartbeats 4000000 in
theorem binds_er (o p u0 : Int) (x y u : Nat) (hx : x < 18) (hy : y < 18) (hu : u < 3) (ex : (IntKind.u64.wrap o).tmod 18 = (x : Int)) (ey : (IntKind.u64.wrap p).tmod 18 = (y : Int)) (eu : (IntKind.u64.wrap u0).tmod 3 = (u : Int)) (w : World) (g : Gr w) (he : Et w) (hs : Sg18 w) (hb : (bToks x y u).2 = none ∧ (bToks x y u).1.length = 9) (h3 : strong x = 3 ∧ strong y = 3) {ln cl : Int} (hR : prsR (bText x y u) 219 = .er 40 ln cl) : Calls Tryz.prog 5 #[.int .i64 o, .int .i64 p, .int .i64 u0] w fun e w' => e = .returned (.bool true) ∧ Below w.heap.size w w' := by
  obtain ⟨m1, m2, m3, s1, s2, s3, s4, s5, s6, T⟩ := txt_of x y u hx hy hu
  obtain ⟨e1, e2, e3, e4, e5, e6, k1, k2, k3, tx⟩ := T
  have HP : Hid (∀ W, Below w.heap.size w W → Calls Tryz.prog 7 #[.string ⟨s6.toArray⟩] W fun e w' => ∃ tp tm tc ev, e = .returned (.tuple #[.agg #[.slice tp tm tc], ev]) ∧ EvAt w' ev (.er 40 ln cl) ∧ Below W.heap.size W w') := fun W hW => by
    have h := parse_any (bText x y u) (by have := bText_len x y u hx hy hu; unfold maxLen; omega) 219 (fun ts h => by rw [bind_scan x y u hx hy hu] at h; have e : (bToks x y u).1 = ts := congrArg Prod.fst h; have e2 := hb.2; rw [e] at e2; omega) W (g.keep hW) (he.keep hW)
    rw [hR] at h
    rw [tx]
    exact h.mono fun e w' h => h.ev
  have HK : Hid (∀ W ev, EvAt W ev (.er 40 ln cl) → Calls Tryz.prog 8 #[ev] W fun e w' => e = .returned (.agg #[.int .i64 2, .int .i64 40, .int .i64 ln, .int .i64 cl, .int .u64 0, .int .i64 0, .int .u64 0]) ∧ Below W.heap.size W w') := fun W ev h => see_any W h
  have K1 : Hid (∀ W, Below w.heap.size w W → Calls Tryz.prog 12 #[.int .i64 ((unO u : Nat) : Int)] W fun e w' => e = .returned (.string ⟨m1.toArray⟩) ∧ w' = W) := fun W h => k1 W (g.keep h).sp
  obtain ⟨xx, hxx⟩ : ∃ xx : Nat, 60 + x = xx := ⟨_, rfl⟩
  obtain ⟨yy, hyy⟩ : ∃ yy : Nat, 60 + y = yy := ⟨_, rfl⟩
  obtain ⟨un, hun⟩ : ∃ un : Nat, unO u = un := ⟨_, rfl⟩
  have K2 : Hid (∀ W, Below w.heap.size w W → Calls Tryz.prog 12 #[.int .i64 (xx : Int)] W fun e w' => e = .returned (.string ⟨m2.toArray⟩) ∧ w' = W) := fun W h => by rw [← hxx]; exact k2 W (g.keep h).sp
  have K3 : Hid (∀ W, Below w.heap.size w W → Calls Tryz.prog 12 #[.int .i64 (yy : Int)] W fun e w' => e = .returned (.string ⟨m3.toArray⟩) ∧ w' = W) := fun W h => by rw [← hyy]; exact k3 W (g.keep h).sp
  rw [hun] at K1
  have cu : ∀ W : World, (W.alloc (.cells #[.int .i64 74, .int .i64 78, .int .i64 79] 3)).cell? ⟨W.heap.size, u, none⟩ = some (.int .i64 (un : Int)) := fun W => by rw [← hun]; exact un_cell u hu W
  have ax : ∀ W, Below w.heap.size w W → W.cell? ⟨0, x, none⟩ = some (.int .i64 3) := fun W h => by have := (hs.keep h) x hx; rw [h3.1] at this; exact this
  have ay : ∀ W, Below w.heap.size w W → W.cell? ⟨0, y, none⟩ = some (.int .i64 3) := fun W h => by have := (hs.keep h) y hy; rw [h3.2] at this; exact this
  have HA := mhid (And.intro ax ay)
  obtain ⟨wx, x0, x1, wxx, sx⟩ := sml x 18 hx (by decide)
  obtain ⟨wy, y0, y1, wyy, sy⟩ := sml y 18 hy (by decide)
  obtain ⟨-, u1, u2, -, -⟩ := sml u 3 hu (by decide)
  rw [hxx] at wxx sx
  rw [hyy] at wyy sy
  have hf : ∀ W, (Instr.field 33 (.agg #[.int .i64 2, .int .i64 40, .int .i64 ln, .int .i64 cl, .int .u64 0, .int .i64 0, .int .u64 0]) 1).run Tryz.prog W = .ok (.int .i64 40) W := fun W => by kernel_rfl
  clear hxx hyy hun hb h3 hR tx k1 k2 k3 ax ay g he hs
  go_enter Tryz.func5, Tryz.ntmps5
  go_wp2_with (first
    | (go_at_call 12; (with_reducible refine (K1.out _ ((Below.refl _ w).alloc (Nat.le_refl _) _)).mono ?_); rintro e w1 ⟨rfl, hw1⟩; subst hw1; clear K1)
    | (go_at_call 12; (with_reducible refine (K2.out _ ((Below.refl _ w).alloc (Nat.le_refl _) _)).mono ?_); rintro e w1 ⟨rfl, hw1⟩; subst hw1; clear K2)
    | (go_at_call 12; (with_reducible refine (K3.out _ ((Below.refl _ w).alloc (Nat.le_refl _) _)).mono ?_); rintro e w1 ⟨rfl, hw1⟩; subst hw1; clear K3)
    | (go_at_call 7; (with_reducible refine (HP.out _ ((Below.refl _ w).alloc (Nat.le_refl _) _)).mono ?_); rintro e w1 ⟨tp, tm, tc, ev, rfl, hev, hb⟩; have hb2 := ((Below.refl _ w).alloc (Nat.le_refl _) (.cells #[.int .i64 74, .int .i64 78, .int .i64 79] 3)).trans (hb.mono (by simp)); have H1 := mhid (And.intro (hev.below ((Below.refl _ w1).alloc (Nat.le_refl _) (.cells #[.slice tp tm tc] 24))) (hb2.trans (((Below.refl _ w1).alloc (Nat.le_refl _) (.cells #[.slice tp tm tc] 24)).mono hb2.size))); have cx := HA.out.1 _ H1.out.2; have cy := HA.out.2 _ H1.out.2; clear hev hb hb2)
    | (go_at_call 8; (with_reducible refine (HK.out _ _ H1.out.1).mono ?_); rintro e w2 ⟨rfl, hb⟩; have H2 := mhid (H1.out.2.trans (hb.mono H1.out.2.size)); clear hb H1))
  go_ret
  exact ⟨rfl, H2.out⟩
end Go.Proofs.YtmekcccmnkgodaaGreatDoor
namespace Go.Proofs.YtmekcccmnkgodaaGreatDoor
open Go.ChangeShapes Go.WideShapes Go.ChangeAt Go.RowKit
set_option linter.unusedVariables false
set_option linter.unusedSimpArgs false
set_option maxRecDepth 100000
/-! ### two lists of ints that grow side by side -/
def iF (K : Nat → Int) : Nat → Value := fun j => .int .i64 (K j)
theorem iF_snoc (K : Nat → Int) (i : Nat) : cellsF (iF K) (i * 1) ++ [Value.int .i64 (K i)] = cellsF (iF K) ((i + 1) * 1) := by
  unfold cellsF
  rw [Nat.mul_one, Nat.mul_one, List.range_succ, List.map_append]
  rfl
structure R2 (B : Nat) (K O : Nat → Int) (n1 n2 : Nat) (p1 : Option Addr) (c1 : Nat) (p2 : Option Addr) (c2 : Nat) (W0 W : World) : Prop where
  o1 : Own W B 3 1 (.slice p1 n1 c1) n1 (iF K)
  o2 : Own W B 3 1 (.slice p2 n2 c2) n2 (iF O)
  ap : ∀ b, (Value.slice p1 n1 c1).ownBlock = some b → (Value.slice p2 n2 c2).ownBlock = some b → False
  be : Below B W0 W
  sz : B ≤ W.heap.size
theorem R2.swap {B : Nat} {K O : Nat → Int} {n1 n2 : Nat} {p1 p2 : Option Addr} {c1 c2 : Nat} {W0 W : World} (h : R2 B K O n1 n2 p1 c1 p2 c2 W0 W) : R2 B O K n2 n1 p2 c2 p1 c1 W0 W := ⟨h.o2, h.o1, fun b e1 e2 => h.ap b e2 e1, h.be, h.sz⟩
theorem R2.below {B : Nat} {K O : Nat → Int} {n1 n2 : Nat} {p1 p2 : Option Addr} {c1 c2 : Nat} {W0 W W' : World} (h : R2 B K O n1 n2 p1 c1 p2 c2 W0 W) (hb : Below W.heap.size W W') : R2 B K O n1 n2 p1 c1 p2 c2 W0 W' := ⟨own_more' h.o1 hb, own_more' h.o2 hb, h.ap, h.be.trans (hb.mono h.sz), Nat.le_trans h.sz hb.size⟩
theorem int_grow {W : World} {B : Nat} (K : Nat → Int) (i : Nat) (hi : i ≤ 100) (v : Value) (hO : Own W B 3 1 v i (iF K)) (hB : B ≤ W.heap.size) {ops : Array Oper} {rest : List Oper} {o : Oper} {a : Act} {Q : Exit → Act → World → Prop} (hgd : o.guard = none) (sl x : Operand) (ho : o.op = .call { callee := .builtin .append, args := #[sl, x], argTypes := #[42, 42] }) (hs : a.eval sl = v) (k : Int) (hk : k = K i) (blk : Nat) (hx : a.eval x = .slice (some ⟨blk, 0, none⟩) 1 1) (hblk : blk = W.heap.size)
    (h : ∀ q c' w', Own w' B 3 1 (.slice q (i + 1) c') (i + 1) (iF K) → (W.alloc (.cells #[.int .i64 k] 3)).grownBy w' v.ownBlock → ((Value.slice q (i + 1) c').ownBlock = v.ownBlock ∨ (Value.slice q (i + 1) c').ownBlock = some (W.heap.size + 1)) → wpList Tryz.prog ops Q rest (a.put o.dst (.slice q (i + 1) c')) w') : wpList Tryz.prog ops Q (o :: rest) a (W.alloc (.cells #[.int .i64 k] 3)) := by
  subst hk
  subst hblk
  obtain ⟨i0, hi0, hz0, hz1, hz2⟩ := info_parts infoIn
  have hb : Below W.heap.size W (W.alloc (.cells #[.int .i64 (K i)] 3)) := (Below.refl _ W).alloc (Nat.le_refl _) _
  refine wpList_appG hgd sl x 42 ho B 3 i0 _ 1 8 Tryz.underlying42 hi0 hz0 hz1 hz2 rfl (by decide) v i (cellsF (iF K) (i * 1)) hs (own_more' hO hb) (some ⟨W.heap.size, 0, none⟩) 1 1 [.int .i64 (K i)] hx rfl (.inr ⟨_, rfl, fun j u hj => ?_⟩) (by simp [Value.oneCell']) (by unfold maxLen; omega) (by omega) (by rw [World.size_alloc]; omega) fun v' w' h1 h2 h3 => ?_
  · have hj0 := (List.getElem?_eq_some_iff.1 hj).1
    obtain rfl : j = 0 := by simp at hj0; omega
    injection hj with hj
    rw [← hj]
    simp [Addr.add]
  · rw [iF_snoc] at h1
    have hO' : Own w' B 3 1 v' (i + 1) (iF K) := h1
    obtain ⟨q, c', rfl, -⟩ := own_form' hO'
    rw [World.size_alloc] at h3
    exact h q c' w' hO' h2 h3
theorem R2.put {B : Nat} {K O : Nat → Int} {n1 n2 : Nat} {p1 p2 : Option Addr} {c1 c2 : Nat} {W0 W : World} (h : R2 B K O n1 n2 p1 c1 p2 c2 W0 W) {ob : Obj} {q : Option Addr} {c' : Nat} {w' : World} (h1 : Own w' B 3 1 (.slice q (n1 + 1) c') (n1 + 1) (iF K)) (h2 : (W.alloc ob).grownBy w' (Value.slice p1 n1 c1).ownBlock) (h3 : (Value.slice q (n1 + 1) c').ownBlock = (Value.slice p1 n1 c1).ownBlock ∨ (Value.slice q (n1 + 1) c').ownBlock = some (W.heap.size + 1)) : R2 B K O (n1 + 1) n2 q c' p2 c2 W0 w' ∧ ∀ (b : Nat) (cs : Array Value) (t : TypeId), W.heap[b]? = some (.cells cs t (0, 0)) → t ≠ 3 → w'.heap[b]? = some (.cells cs t (0, 0)) := by
  have hb : Below W.heap.size W (W.alloc ob) := (Below.refl _ W).alloc (Nat.le_refl _) _
  have hbw : Below B W0 (W.alloc ob) := h.be.trans (hb.mono h.sz)
  have hsz : B ≤ (W.alloc ob).heap.size := by rw [World.size_alloc]; have := h.sz; omega
  have hg := hbw.grown h2 hsz (fun k hk => (own_ltG h.o1 hk).2)
  refine ⟨⟨h1, (show Own (W.alloc ob) B 3 1 (.slice p2 n2 c2) n2 (iF O) from own_more' h.o2 hb).far fun b hbb => ?_, fun b e1 e2 => ?_, hg, Nat.le_trans hsz h2.size⟩, fun b cs t hbt hne => ?_⟩
  · have hl := (own_ltG h.o2 hbb).1
    exact h2.block b (by rw [World.size_alloc]; omega) (fun e => h.ap b e.symm hbb)
  · rcases h3 with h3 | h3
    · rw [h3] at e1
      exact h.ap b e1 e2
    · rw [h3] at e1
      injection e1 with e1
      have hl := (own_ltG h.o2 e2).1
      omega
  · have hl := (Array.getElem?_eq_some_iff.1 hbt).1
    refine (h2.block b (by rw [World.size_alloc]; omega) (fun e => ?_)).trans ((hb.block b hl).trans hbt)
    exact own_ne h.o1 hbt (fun e => hne e.symm) b e.symm rfl
theorem own_kat {W : World} {B i c : Nat} {p : Option Addr} {K : Nat → Int} (h : Own W B 3 1 (.slice p i c) i (iF K)) : KAt W p i K := by
  obtain ⟨q, c', e, hq⟩ := own_form' h
  injection e with e1 _ e2
  subst e1 e2
  rcases hq with h0 | ⟨g, rfl⟩
  · exact .inl h0
  · refine .inr ⟨g, 0, rfl, (own_ltG h (b := g) rfl).1, fun j hj => ?_⟩
    rw [Nat.zero_add]
    exact h.cell (j := j) (by omega)
theorem new_kat (W : World) (cs : List Int) (n : Nat) (hn : cs.length = n) (hc : Array Value) (he : hc = (cs.map fun z => Value.int .i64 z).toArray) : KAt (W.alloc (.cells hc 3)) (some ⟨W.heap.size, 0, none⟩) n (fun j => cs.getD j 0) := by
  subst he hn
  refine .inr ⟨W.heap.size, 0, rfl, by rw [World.size_alloc]; omega, fun j hj => ?_⟩
  have h := World.alloc_heap_new W (.cells (cs.map fun z => Value.int .i64 z).toArray 3 (0, 0))
  rw [Nat.zero_add]
  unfold World.cell?
  rw [h]
  simp [hj, List.getD_eq_getElem?_getD]
end Go.Proofs.YtmekcccmnkgodaaGreatDoor
