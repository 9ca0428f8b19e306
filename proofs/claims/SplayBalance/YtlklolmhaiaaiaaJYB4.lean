import Derived.Test.YtlklolmhaiaaiaaJYB1
import Derived.Test.YtlklolmhaiaaiaaJY35
namespace Go.Proofs.Ytlklolmhaiaaiaa
open Go.ChangeShapes Go.WideShapes Go.ChangeAt Go.RowKit
set_option linter.unusedVariables false
set_option linter.unusedSimpArgs false

/-! ### the ways by the depths -/
def dpN (t : Tr) (i : Nat) : Nat := ((t.spots 0).getD i (0, 0)).2
def pN (t : Tr) (i : Nat) : Nat := ((t.spots 0).getD i (0, 0)).1
theorem spot_at {t : Tr} {i : Nat} (h : i < t.size) : (t.spots 0)[i]? = some (pN t i, dpN t i) := by
  have h2 : i < (t.spots 0).length := by rw [spots_len]; exact h
  unfold pN dpN
  rw [List.getD_eq_getElem?_getD, List.getElem?_eq_getElem h2]
  rfl
theorem dpF_dpN {t : Tr} {i : Nat} : dpF (t.spots 0) i = .int .i64 (dpN t i : Int) := rfl
def wayN (t : Tr) (i : Nat) (th : Bool) : Nat := if th = true then dpN t i else max (if 0 < i then dpN t (i - 1) else 0) (if i < t.size then dpN t i else 0)
theorem last_take {t : Tr} {i : Nat} (h : i ≤ t.size) : lastD ((t.spots 0).take i) = if 0 < i then dpN t (i - 1) else 0 := by
  by_cases h0 : 0 < i
  · have h1 := spot_at (t := t) (i := i - 1) (by omega)
    have h2 : ((t.spots 0).take i).getLast? = some (pN t (i - 1), dpN t (i - 1)) := by
      rw [List.getLast?_eq_getElem?, List.length_take, spots_len, List.getElem?_take, if_pos (by omega), show min i t.size - 1 = i - 1 by omega, h1]
    simp [lastD, h2, h0]
  · have : i = 0 := by omega
    subst this
    simp [lastD]
theorem head_drop {t : Tr} {i : Nat} : headDp ((t.spots 0).drop i) = if i < t.size then dpN t i else 0 := by
  by_cases h0 : i < t.size
  · have h1 := spot_at h0
    simp [headDp, List.head?_drop, h1, h0]
  · have : (t.spots 0).drop i = [] := List.drop_eq_nil_of_le (by rw [spots_len]; omega)
    simp [headDp, this, h0]
theorem way_gen {sd : Tr → Int} {σ : Nat → Int} (hσ : ∀ l x r, sd (.node l x r) = σ x) (hs : Side sd) (t : Tr) (i : Nat) (hi : i ≤ t.size) (h1 : ∀ j, j < i → σ (pN t j) = 1) (h2 : ∀ j, i ≤ j → j < t.size → σ (pN t j) ≠ 1) (hp : t.ps.Pairwise (fun a b => σ a = 1 ∨ σ b = 0)) :
    (i < t.size → σ (pN t i) = 2 → wayN t i true = wyT sd t) ∧ ((i < t.size → σ (pN t i) = 0) → wayN t i false = wyT sd t) := by
  have hl : (t.spots 0).length = t.size := spots_len t 0
  have k1 : ∀ s ∈ (t.spots 0).take i, σ s.1 = 1 := by
    intro s hs
    obtain ⟨j, hj, e⟩ := List.mem_iff_getElem.1 hs
    rw [List.length_take] at hj
    have h3 := spot_at (t := t) (i := j) (by omega)
    rw [List.getElem_take] at e
    rw [List.getElem?_eq_getElem (by omega)] at h3
    rw [← e, Option.some.inj h3]
    exact h1 j (by omega)
  have k2 : ∀ s ∈ (t.spots 0).drop i, σ s.1 ≠ 1 := by
    intro s hs
    obtain ⟨j, hj, e⟩ := List.mem_iff_getElem.1 hs
    rw [List.length_drop] at hj
    have h3 := spot_at (t := t) (i := i + j) (by omega)
    rw [List.getElem_drop] at e
    rw [List.getElem?_eq_getElem (by omega)] at h3
    rw [← e, Option.some.inj h3]
    exact h2 (i + j) (by omega) (by omega)
  have k3 : (t.spots 0).Pairwise (fun a b => σ a.1 = 1 ∨ σ b.1 = 0) := by
    rw [← Tr.spots_ps t 0] at hp
    exact (List.pairwise_map.1 hp)
  obtain ⟨g1, g2⟩ := way_at hσ hs t 0 ((t.spots 0).take i) ((t.spots 0).drop i) (List.take_append_drop i _).symm k1 k2 k3
  have hd : i < t.size → (t.spots 0).drop i = (pN t i, dpN t i) :: (t.spots 0).drop (i + 1) := fun h => by
    have h3 := spot_at h
    rw [List.getElem?_eq_getElem (by omega)] at h3
    rw [List.drop_eq_getElem_cons (by omega), Option.some.inj h3]
  constructor
  · intro h h9
    have := g1 _ _ (hd h) h9
    simp only [wayN, if_true]
    simpa using this.symm
  · intro h
    by_cases ht : t = .nil
    · subst ht
      simp [wayN, Tr.size, wyT_nil] at hi ⊢
      intro h3
      omega
    · have := g2 ht (fun s M e => by
        by_cases hlt : i < t.size
        · rw [hd hlt] at e
          injection e with e1 e2
          rw [← e1]
          exact h hlt
        · rw [List.drop_eq_nil_of_le (by omega)] at e
          exact absurd e (by simp))
      rw [last_take hi, head_drop] at this
      unfold wayN
      rw [if_neg (by simp)]
      omega
theorem lX_map {t : Tr} {E : Nat → Ev} {i : Nat} (h : i < t.size) : lX (t.ps.map E) i = E (pN t i) := by
  have h1 := spot_at h
  have h2 : t.ps[i]? = some (pN t i) := by rw [← Tr.spots_ps t 0, List.getElem?_map, h1]; rfl
  unfold lX
  rw [List.getD_eq_getElem?_getD, List.getElem?_map, h2]
  rfl
theorem pN_mem {t : Tr} {i : Nat} (h : i < t.size) : pN t i ∈ t.ps := spot_in t 0 _ (List.mem_of_getElem? (spot_at h))
theorem wayN_key {t : Tr} {E : Nat → Ev} {kt ks kq : Int} {i : Nat} {th : Bool} (hs : t.ps.Pairwise fun p q => keyLt (E p) (E q)) (h : SK (t.ps.map E) kt ks kq i th) : wayN t i th = wyT (sdK kt ks kq E) t := by
  have hl : (t.ps.map E).length = t.size := by rw [List.length_map, Tr.size_ps]
  have hle := h.le
  have hS : (t.ps.map E).Pairwise keyLt := List.pairwise_map.2 hs
  have h1 : ∀ j, j < i → sK kt ks kq E (pN t j) = 1 := fun j hj => by
    have := h.lo j hj
    rw [lX_map (by omega), keyCmp_lt] at this
    rw [sK_1, show cmpE kt ks kq (E (pN t j)) = keyCmp kt ks kq (E (pN t j)).t (E (pN t j)).s (E (pN t j)).q from rfl, keyCmp_gt]
    omega
  have h2 : ∀ j, i ≤ j → j < t.size → sK kt ks kq E (pN t j) ≠ 1 := fun j hj hj2 => by
    have h3 := h.hi (by omega)
    rw [lX_map (by omega), ne_eq, keyCmp_lt] at h3
    rw [ne_eq, sK_1, show cmpE kt ks kq (E (pN t j)) = keyCmp kt ks kq (E (pN t j)).t (E (pN t j)).s (E (pN t j)).q from rfl, keyCmp_gt]
    by_cases e : j = i
    · subst e; omega
    · have h4 := lX_srt hS i j (by omega) (by omega)
      rw [lX_map (by omega), lX_map (by omega), keyLt_iff] at h4
      omega
  obtain ⟨g1, g2⟩ := way_gen (sd := sdK kt ks kq E) (σ := sK kt ks kq E) (fun l x r => rfl) (side_sdK kt ks kq E) t i (by omega) h1 h2 (mono_sK kt ks kq E hs)
  cases th with
  | true =>
    obtain ⟨a1, a2⟩ := h.at' rfl
    rw [lX_map (by omega)] at a2
    exact g1 (by omega) (sK_2.2 a2)
  | false =>
    refine g2 fun hlt => ?_
    have a3 := h2 i (Nat.le_refl _) hlt
    have a4 : sK kt ks kq E (pN t i) ≠ 2 := fun h9 => by
      have := h.iff.2 ⟨E (pN t i), List.mem_map.2 ⟨_, pN_mem hlt, rfl⟩, sK_2.1 h9⟩
      exact absurd this (by simp)
    have := keyCmp_three kt ks kq (E (pN t i)).t (E (pN t i)).s (E (pN t i)).q
    rw [ne_eq, sK_1] at a3
    rw [ne_eq, sK_2] at a4
    rw [sK_0]
    unfold cmpE at *
    omega
theorem wayN_time {t : Tr} {E : Nat → Ev} {u : Int} {i : Nat} (hs : t.ps.Pairwise fun p q => keyLt (E p) (E q)) (hi : i ≤ t.size) (h1 : ∀ j, j < i → (lX (t.ps.map E) j).t < u) (h2 : i < t.size → ¬ (lX (t.ps.map E) i).t < u) : wayN t i false = wyT (sdT u E) t := by
  have hl : (t.ps.map E).length = t.size := by rw [List.length_map, Tr.size_ps]
  have hS : (t.ps.map E).Pairwise keyLt := List.pairwise_map.2 hs
  have g := way_gen (sd := sdT u E) (σ := fun p => if u ≤ (E p).t then 0 else 1) (fun l x r => rfl) (side_sdT u E) t i hi (fun j hj => by
    have := h1 j hj
    rw [lX_map (by omega)] at this
    exact if_neg (by omega)) (fun j hj hj2 => by
    have h3 := h2 (by omega)
    have h4 : u ≤ (E (pN t j)).t := by
      by_cases e : j = i
      · subst e
        rw [lX_map (by omega)] at h3
        omega
      · have h4 := lX_srt hS i j (by omega) (by omega)
        rw [lX_map (by omega)] at h3
        rw [lX_map (by omega), lX_map (by omega), keyLt_iff] at h4
        omega
    show (if u ≤ (E (pN t j)).t then (0 : Int) else 1) ≠ 1
    rw [if_pos h4]
    decide) (hs.imp fun {p q} hpq => by
    rw [keyLt_iff] at hpq
    show (if u ≤ (E p).t then (0 : Int) else 1) = 1 ∨ (if u ≤ (E q).t then (0 : Int) else 1) = 0
    by_cases h5 : u ≤ (E p).t
    · right; exact if_pos (by omega)
    · left; exact if_neg h5)
  refine g.2 fun hlt => ?_
  have h3 := h2 hlt
  rw [lX_map hlt] at h3
  exact if_pos (by omega)
theorem wayN_left {t : Tr} (ht : t ≠ .nil) : dpN t 0 = wyT sdL t := by
  have h := way_least t 0 ht
  have h0 : 0 < t.size := by cases t with
    | nil => exact absurd rfl ht
    | node l x r => simp only [Tr.size]; omega
  have h2 := head_drop (t := t) (i := 0)
  rw [List.drop_zero, if_pos h0] at h2
  omega
/-! ### what a call costs -/
structure PaidC (o : OpV) (room : Int) (E : Nat → Ev) (t : Tr) (k : Nat) : Prop where
  insF : o.kd = 1 → (t.size : Int) = room → k = 0
  ins : o.kd = 1 → (t.size : Int) ≠ room → k = wyT (sdK o.t o.s o.q E) t
  nil : (o.kd = 2 ∨ o.kd = 3) → t = .nil → k = 0
  min : (o.kd = 2 ∨ o.kd = 3) → t ≠ .nil → k = wyT sdL t
  findY : o.kd = 4 → (openT (sdK o.t o.s o.q E) t).m ≠ 0 → k = wyT (sdK o.t o.s o.q E) t
  findN : o.kd = 4 → wyT (sdK o.t o.s o.q E) t ≤ k
  rem : o.kd = 5 → wyT (sdK o.t o.s o.q E) t ≤ k
  split : o.kd = 6 → k = wyT (sdT o.t E) t
  idle : o.kd ≠ 1 → o.kd ≠ 2 → o.kd ≠ 3 → o.kd ≠ 4 → o.kd ≠ 5 → o.kd ≠ 6 → k = 0
def potB (o : OpV) (t : Tr) : Nat := if 1 ≤ o.kd ∧ o.kd ≤ 6 then 2 ^ share t.size else 1
def BR0 (E0 : Nat → Ev) (t0 : Tr) (w0 : Int) : (Nat → Ev) → Tr → Int → Prop := fun E t w => E = E0 ∧ t = t0 ∧ w = w0
def BR1 (o : OpV) (room : Int) (E0 : Nat → Ev) (t0 : Tr) (w0 : Int) : Tr → Int → Prop := fun t w => ∃ k : Nat, w = w0 + k ∧ 2 ^ k * t.pw ≤ potB o t0 * t0.pw ∧ PaidC o room E0 t0 k
theorem potB_on {o : OpV} {t : Tr} (h : o.kd = 1 ∨ o.kd = 2 ∨ o.kd = 3 ∨ o.kd = 4 ∨ o.kd = 5 ∨ o.kd = 6) : potB o t = 2 ^ share t.size := if_pos (by omega)
theorem two_pow_pos (n : Nat) : 1 ≤ 2 ^ n := Nat.one_le_two_pow
theorem opC {o : OpV} {room : Int} {E0 : Nat → Ev} {t0 : Tr} {w0 : Int} : OpC (BR0 E0 t0 w0) (BR1 o room E0 t0 w0) o room where
  idle := by
    rintro a1 a2 a3 a4 a5 a6 E t w ⟨rfl, rfl, rfl⟩
    refine ⟨0, by simp, ?_, ?_⟩
    · rw [show potB o t = 1 from if_neg (by omega)]; simp
    · constructor <;> intros <;> first | rfl | omega
  none := by
    rintro hk E w ⟨rfl, rfl, rfl⟩
    refine ⟨0, by simp, ?_, ?_⟩
    · rw [potB_on (by omega)]
      exact Nat.mul_le_mul (by simpa using two_pow_pos _) (Nat.le_refl _)
    · constructor <;> intros <;> first | rfl | omega | exact absurd rfl ‹Tr.nil ≠ .nil›
  min := by
    rintro hk E t w ⟨rfl, rfl, rfl⟩ ht hz
    have h := pot_node side_sdL t (openT sdL t).m
    rw [openL_a _ _ (Nat.le_refl _)] at h
    refine ⟨(openT sdL t).k, rfl, by rw [potB_on (by omega)]; exact h, ?_⟩
    have h2 := openT_way side_sdL _ t (Nat.le_refl _)
    constructor <;> intros <;> first | exact h2 | omega | contradiction
  pop := by
    rintro hk E t w ⟨rfl, rfl, rfl⟩ ht
    refine ⟨(openT sdL t).k, rfl, by rw [potB_on (by omega)]; exact pot_right side_sdL t, ?_⟩
    have h2 := openT_way side_sdL _ t (Nat.le_refl _)
    constructor <;> intros <;> first | exact h2 | omega | contradiction
  findN := by
    rintro hk E t w ⟨rfl, rfl, rfl⟩ hm
    have h2 := openT_way (side_sdK o.t o.s o.q E) _ t (Nat.le_refl _)
    refine ⟨_, by rw [Int.natCast_add, Int.add_assoc], by rw [potB_on (by omega)]; exact pot_joined (side_sdK o.t o.s o.q E) t, ?_⟩
    constructor <;> intros <;> first | omega | contradiction
  findY := by
    rintro hk E t w ⟨rfl, rfl, rfl⟩ hm
    have h2 := openT_way (side_sdK o.t o.s o.q E) _ t (Nat.le_refl _)
    refine ⟨_, rfl, by rw [potB_on (by omega)]; exact pot_node (side_sdK o.t o.s o.q E) t _, ?_⟩
    constructor <;> intros <;> first | omega | contradiction
  rem := by
    rintro hk E t w ⟨rfl, rfl, rfl⟩
    have h2 := openT_way (side_sdK o.t o.s o.q E) _ t (Nat.le_refl _)
    refine ⟨_, by rw [Int.natCast_add, Int.add_assoc], by rw [potB_on (by omega)]; exact pot_joined (side_sdK o.t o.s o.q E) t, ?_⟩
    constructor <;> intros <;> first | omega | contradiction
  insF := by
    rintro hk E t w ⟨rfl, rfl, rfl⟩ hm
    refine ⟨0, by simp, ?_, ?_⟩
    · rw [potB_on (by omega)]
      exact Nat.mul_le_mul (by simpa using two_pow_pos _) (Nat.le_refl _)
    · constructor <;> intros <;> first | rfl | omega | contradiction
  ins := by
    rintro hk E t w p ⟨rfl, rfl, rfl⟩ hm
    have h2 := openT_way (side_sdK o.t o.s o.q E) _ t (Nat.le_refl _)
    refine ⟨_, rfl, by rw [potB_on (by omega)]; exact pot_node (side_sdK o.t o.s o.q E) t _, ?_⟩
    constructor <;> intros <;> first | omega | contradiction
  split := by
    rintro hk E t w ⟨rfl, rfl, rfl⟩
    have h2 := openT_way (side_sdT o.t E) _ t (Nat.le_refl _)
    refine ⟨_, rfl, by rw [potB_on (by omega)]; exact pot_left (side_sdT o.t E) t, ?_⟩
    constructor <;> intros <;> first | omega | contradiction
end Go.Proofs.Ytlklolmhaiaaiaa
namespace Go.Proofs.Ytlklolmhaiaaiaa
open Go.ChangeShapes Go.WideShapes Go.ChangeAt Go.RowKit
set_option linter.unusedVariables false
set_option linter.unusedSimpArgs false

set_option maxRecDepth 100000 in
theorem digits_any (n : Nat) (W : World) (hn : n ≤ 1000000) : Calls Try.prog 41 #[.int .i64 (n : Int)] W fun e W' => e = .returned (.int .i64 (dig n : Int)) ∧ W' = W := by
  have HN : Hid (n ≤ 1000000 ∧ dig n ≤ 20) := ⟨hn, dig_small 20 n (by omega)⟩
  clear hn
  go_enter Try.func41, Try.ntmps41
  go_wp2_with fail
  go_loopw [0, 3] (fun x y wr => ∃ m k : Nat, x = .int .i64 (m : Int) ∧ y = .int .i64 (k : Int) ∧ m ≤ n ∧ k + dig m = dig n ∧ wr = W) (fun x _ _ => (intOf x).toNat)
  case atStart => exact ⟨n, 0, rfl, rfl, Nat.le_refl _, by omega, rfl⟩
  case round =>
    obtain ⟨m, k, rfl, rfl, hm, hk, rfl⟩ := hrel
    obtain ⟨h1, h2⟩ := HN.out
    by_cases h0 : m = 0
    · have hk2 : k = dig n := by rw [h0, dig_zero] at hk; omega
      subst hk2
      have d1 : decide ((0 : Int) < (m : Int)) = false := by simp; omega
      go_wp2_with fail
      go_ret
      first | exact ⟨rfl, rfl⟩ | exact ⟨rfl, trivial⟩ | rfl
    · have hd := dig_pos h0
      have d1 : decide ((0 : Int) < (m : Int)) = true := by simp; omega
      have e1 : IntKind.i64.wrap (Int.tdiv (m : Int) 2) = ((m / 2 : Nat) : Int) := by rw [Int.tdiv_eq_ediv_of_nonneg (by omega), IntKind.wrap_i64]; omega
      have e2 : IntKind.i64.wrap ((k : Int) + 1) = ((k + 1 : Nat) : Int) := by rw [IntKind.wrap_i64]; omega
      go_wp2_with fail
      exact ⟨⟨m / 2, k + 1, rfl, rfl, by omega, by omega, trivial⟩, by simp only [intOf]; omega⟩
theorem share_any (n : Nat) (W : World) (hn : n ≤ 1000000) : Calls Try.prog 14 #[.int .i64 (n : Int)] W fun e W' => e = .returned (.int .i64 (share n : Int)) ∧ W' = W := by
  have HD := digits_any n W hn
  have h1 : dig n ≤ 20 := dig_small 20 n (by omega)
  have e1 : IntKind.i64.wrap (10 * (dig n : Int)) = 10 * (dig n : Int) := by rw [IntKind.wrap_i64]; omega
  have e2 : IntKind.i64.wrap (6 + 10 * (dig n : Int)) = 6 + 10 * (dig n : Int) := by rw [IntKind.wrap_i64]; omega
  go_enter Try.func14, Try.ntmps14
  go_wp2_with (go_at_call 41; (with_reducible refine HD.mono ?_); rintro e w1 ⟨rfl, h9⟩; subst h9)
  go_ret
  exact ⟨by unfold share; push_cast; rfl, rfl⟩
/-- the list of depths -/
def DpW (W : World) (p : Option Addr) (t : Tr) : Prop := t.size = 0 ∨ ∃ b, p = some ⟨b, 0, none⟩ ∧ b < W.heap.size ∧ ∀ i, i < t.size → W.cell? ⟨b, i, none⟩ = some (.int .i64 (dpN t i : Int))
set_option maxRecDepth 100000 in
theorem way_any {t : Tr} {p pd : Option Addr} {c cd i : Nat} {th : Bool} (W : World) (hd : DpW W pd t) (hsz : t.size ≤ 8192) (hi : i ≤ t.size) (hth : th = true → i < t.size) : Calls Try.prog 40 #[.slice p t.size c, .slice pd t.size cd, .int .i64 (i : Int), .bool th] W fun e W' => e = .returned (.int .i64 (wayN t i th : Int)) ∧ Below W.heap.size W W' := by
  unfold wayN
  by_cases h0 : t.size = 0
  · have hi0 : i = 0 := by omega
    subst hi0
    have : th = false := by cases th with
      | true => have := hth rfl; omega
      | false => rfl
    subst this
    rw [h0]
    clear hd hth hi hsz
    go_enter Try.func40, Try.ntmps40
    go_wp2_with fail
    go_ret
    exact ⟨rfl, Below.refl _ _⟩
  obtain ⟨b, rfl, hb, hc⟩ := hd.resolve_left h0
  have i0 : (0 : Int) ≤ (i : Int) := by omega
  cases th with
  | true =>
    have hlt := hth rfl
    have i1 : (i : Int) < (t.size : Int) := by omega
    have x0 := hc i hlt
    clear hth hi hsz hc hlt h0
    go_enter Try.func40, Try.ntmps40
    go_wp2_with fail
    go_ret
    exact ⟨rfl, Below.refl _ _⟩
  | false =>
    generalize hm : t.size = m at *
    by_cases hp : 0 < i
    · have dp : decide ((0 : Int) < (i : Int)) = true := by simp; omega
      have dp2 : decide (0 < i) = true := by simp; omega
      have ei : IntKind.i64.wrap ((i : Int) - 1) = ((i - 1 : Nat) : Int) := by rw [IntKind.wrap_i64]; omega
      have j0 : (0 : Int) ≤ ((i - 1 : Nat) : Int) := by omega
      have j1 : ((i - 1 : Nat) : Int) < (m : Int) := by omega
      have y0 := hc (i - 1) (by omega)
      rw [if_neg (by simp), if_pos hp]
      generalize dpN t (i - 1) = u at *
      by_cases hlt : i < m
      · have i1 : (i : Int) < (m : Int) := by omega
        have dl : decide ((i : Int) < (m : Int)) = true := by simp; omega
        have dl2 : decide (i < m) = true := by simp; omega
        have x0 := hc i hlt
        rw [if_pos hlt]
        generalize dpN t i = v at *
        by_cases hv : u < v
        · have dv : decide ((u : Int) < (v : Int)) = true := by simp; omega
          have dv2 : decide (u < v) = true := by simp; omega
          rw [Nat.max_eq_right (by omega)]
          clear hth hi hsz hc hlt h0 hm hp hv
          go_enter Try.func40, Try.ntmps40
          go_wp2_with fail
          go_ret
          exact ⟨rfl, Below.refl _ _⟩
        · have dv : decide ((u : Int) < (v : Int)) = false := by simp; omega
          have dv2 : decide (u < v) = false := by simp; omega
          rw [Nat.max_eq_left (by omega)]
          clear hth hi hsz hc hlt h0 hm hp hv
          go_enter Try.func40, Try.ntmps40
          go_wp2_with fail
          go_ret
          exact ⟨rfl, Below.refl _ _⟩
      · have dl : decide ((i : Int) < (m : Int)) = false := by simp; omega
        have dl2 : decide (i < m) = false := by simp; omega
        rw [if_neg hlt, Nat.max_eq_left (by omega)]
        clear hth hi hsz hc hlt h0 hm hp
        go_enter Try.func40, Try.ntmps40
        go_wp2_with fail
        go_ret
        exact ⟨rfl, Below.refl _ _⟩
    · have dp : decide ((0 : Int) < (i : Int)) = false := by simp; omega
      have dp2 : decide (0 < i) = false := by simp; omega
      have i1 : (i : Int) < (m : Int) := by omega
      have dl : decide ((i : Int) < (m : Int)) = true := by simp; omega
      have dl2 : decide (i < m) = true := by simp; omega
      have x0 := hc i (by omega)
      rw [if_neg (by simp), if_neg hp, if_pos (show i < m by omega), Nat.max_eq_right (by omega)]
      generalize dpN t i = v at *
      by_cases hv : 0 < v
      · have dv : decide ((0 : Int) < (v : Int)) = true := by simp; omega
        have dv2 : decide (0 < v) = true := by simp; omega
        clear hth hi hsz hc h0 hm hp hv
        go_enter Try.func40, Try.ntmps40
        go_wp2_with fail
        go_ret
        exact ⟨rfl, Below.refl _ _⟩
      · have hv0 : v = 0 := by omega
        subst hv0
        have dv : decide ((0 : Int) < ((0 : Nat) : Int)) = false := by simp
        clear hth hi hsz hc h0 hm hp hv
        go_enter Try.func40, Try.ntmps40
        go_wp2_with fail
        go_ret
        exact ⟨rfl, Below.refl _ _⟩
end Go.Proofs.Ytlklolmhaiaaiaa
