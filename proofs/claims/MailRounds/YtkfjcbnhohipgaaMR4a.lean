import Derived.Test.YtkfjcbnhohipgaaMR3
import Derived.Test.YtkfjcbnhohipgaaMR2f
import Derived.ArgAppend
import Derived.BigQuiet
import Derived.Deep.RegionLaw
import Derived.Deep.RegionHeld3
import Derived.Deep.Cut
import Derived.Deep.DeepCutAuto
import Derived.Deep.CutBlock
import Derived.Deep.CutRange
import Derived.Deep.AppendLies
import Derived.Handy
import Derived.Lib.RabinKarpLaws
namespace Go.Proofs.Ytkfjcbnhohipgaa
open Go.ChangeShapes Go.WideShapes Go.ChangeAt Go.RowKit
set_option linter.unusedVariables false
set_option linter.unusedSimpArgs false



abbrev cvB : Value := .func (.func 14) #[] #[]
structure PT (X : Nat → Nt) (N Rn : Nat) (W : World) (B hb wb bb n : Nat) (R : Nat → Nat) (ph : Nat → Int) (H : Nat → Nat → Nat → Hf) (r s : Nat → Nat) : Prop where
  mp : MP Fn W B hb wb bb n 64 cvB R ph (fun _ => 0) H
  rs : RS X N n Rn r s ph H
  bs : B ≤ W.heap.size
def hdF (r s : Nat → Nat) (j : Nat) : Value := if j % 2 = 0 then .int .i64 (r (j / 2) : Int) else .int .i64 (s (j / 2) : Int)
section
variable {X : Nat → Nt} {N Rn : Nat} {W W' : World} {B hb wb bb n : Nat} {R : Nat → Nat} {ph : Nat → Int} {H : Nat → Nat → Nat → Hf} {r s : Nat → Nat}
theorem PT.later (h : PT X N Rn W B hb wb bb n R ph H r s) (hb' : Below W.heap.size W W') : PT X N Rn W' B hb wb bb n R ph H r s := ⟨h.mp.later hb', h.rs, Nat.le_trans h.bs hb'.size⟩
/-- the hands alone have changed -/
theorem PT.hand (h : PT X N Rn W B hb wb bb n R ph H r s) {hd m : Nat} {F : Nat → Value} (ho : Own W B 53 2 (.slice (some ⟨hd, 0, none⟩) m m) m F) (hz : W'.heap.size = W.heap.size) (hk : ∀ k, k ≠ hd → W'.heap[k]? = W.heap[k]?) : PT X N Rn W' B hb wb bb n R ph H r s := by
  have m := h.mp
  have far : ∀ {tt : TypeId} {s mm : Nat} {v : Value} {F : Nat → Value}, Own W B tt s v mm F → tt ≠ 53 → Own W' B tt s v mm F := fun o1 hne => o1.far fun k hk' => hk k fun e => by
    subst e
    exact o1.clash ho hne hk' rfl
  obtain ⟨cu, h1, _⟩ := ho.block
  exact ⟨⟨(hk hb (typ_ne m.p h1 (by decide))).trans m.p, far m.w (by decide), far m.b (by decide), fun i hi => far (m.r i hi) (by decide), m.ap, fun i j k hi hj hk9 => far (m.h i j k hi hj hk9) (by decide), m.hd, m.hbs, m.s, fun k o hk' => by cases hk'⟩, h.rs, by rw [hz]; exact h.bs⟩
theorem hd_set (r s : Nat → Nat) (w : Nat) (a : Nat) {W : World} {B hd n : Nat} (h : Own W B 53 2 (.slice (some ⟨hd, 0, none⟩) n n) n (hdF r s)) : Own (W.setCell ⟨hd, w * 2 + 1, none⟩ (.int .i64 (a : Int))) B 53 2 (.slice (some ⟨hd, 0, none⟩) n n) n (hdF r (upN s w a)) := by
  refine Own.congr (h.put (w * 2 + 1) [.int .i64 (a : Int)]) fun j hj => ?_
  unfold putF hdF
  simp only [List.length_singleton]
  by_cases e : j = w * 2 + 1
  · subst e
    rw [if_pos (by omega), if_neg (by omega), show w * 2 + 1 - (w * 2 + 1) = 0 by omega, show (w * 2 + 1) / 2 = w by omega, up_at]
    rfl
  · rw [if_neg (by omega)]
    by_cases e2 : j % 2 = 0
    · rw [if_pos e2, if_pos e2]
    · rw [if_neg e2, if_neg e2, up_ne _ _ (by omega)]
theorem hd_setR (r s : Nat → Nat) (w : Nat) (a : Nat) {W : World} {B hd n : Nat} (h : Own W B 53 2 (.slice (some ⟨hd, 0, none⟩) n n) n (hdF r s)) : Own (W.setCell ⟨hd, w * 2, none⟩ (.int .i64 (a : Int))) B 53 2 (.slice (some ⟨hd, 0, none⟩) n n) n (hdF (upN r w a) s) := by
  refine Own.congr (h.put (w * 2) [.int .i64 (a : Int)]) fun j hj => ?_
  unfold putF hdF
  simp only [List.length_singleton]
  by_cases e : j = w * 2
  · subst e
    rw [if_pos (by omega), if_pos (by omega), show w * 2 - w * 2 = 0 by omega, show w * 2 / 2 = w by omega, up_at]
    rfl
  · rw [if_neg (by omega)]
    by_cases e2 : j % 2 = 0
    · rw [if_pos e2, if_pos e2, up_ne _ _ (by omega)]
    · rw [if_neg e2, if_neg e2]
theorem PT.pp (h : PT X N Rn W B hb wb bb n R ph H r s) (hR : Rn ≤ 6) {w : Nat} (hw : w < n) : 0 ≤ ph w ∧ ph w < 4611686018427387904 := by
  have h1 := h.rs.p w hw
  have h2 := fp_ge (X := X) (N := N) (r := r) (s := s) w
  have h3 := (h.rs.e w hw).1
  omega
theorem PT.send (h : PT X N Rn W B hb wb bb n R ph H r s) (hR : Rn ≤ 6) (hN : N ≤ 60) {w j0 t0 : Nat} (hw : w < n) (hj : j0 < n) (hr : r w < Rn) (hs : s w < onN X N w (r w)) (ht : (ownN X N (r w) w)[s w]? = some t0) (hto : (X t0).t = (j0 : Int)) : Calls Try.prog 15 #[.pointer (some ⟨hb, 0, none⟩), .int .i64 (w : Int), .int .i64 (j0 : Int), .agg #[.int .i64 (X t0).k, .int .i64 (t0 : Int)]] W fun e W' => e = .returned (.int .i64 0) ∧ Below B W W' ∧ KT W W' ∧ ∃ H', PT X N Rn W' B hb wb bb n R ph H' r (upN s w (s w + 1)) := by
  have hl : (H w j0 (par (ph w))).l ≤ 60 := by
    rw [← hls_len, h.rs.c w j0 hw hj]
    unfold CN
    have := ltr_len X N w j0 (fpN X N r s w) (cntN X N r s w (fpN X N r s w))
    omega
  refine (send_put w j0 (X t0).k (t0 : Int) hw hj (h.pp hR hw) rfl W h.mp.fat h.bs (by omega) (by omega)).mono fun e W' ⟨k1, ⟨q, c, k2⟩, k3⟩ => ⟨k1, k3, k2.fatK.2, _, k2.fatK.1, h.rs.send hw hj hr hs ht hto q c, Nat.le_trans h.bs k3.size⟩
theorem PT.flipYes (h : PT X N Rn W B hb wb bb n R ph H r s) (hn : n ≤ 64) (hR : Rn ≤ 6) {w : Nat} (hw : w < n) (hr : r w < Rn) (hs : s w = onN X N w (r w)) (hf : ¬ (Low ph n w ∨ sentP H n w (ph w - 1) ∨ dueP H ph n w)) : Calls Try.prog 16 #[.pointer (some ⟨hb, 0, none⟩), .int .i64 (w : Int)] W fun e W' => e = .returned (.int .i64 0) ∧ Below B W W' ∧ KT W W' ∧ ∃ ph', PT X N Rn W' B hb wb bb n R ph' H r (upN s w (s w + 1)) := by
  refine (flip_any w hw hn (h.pp hR hw) W h.mp.fat h.bs).mono fun e W' ⟨h1, h2⟩ => ?_
  rcases h2 with ⟨h9, _⟩ | ⟨_, h9, _⟩ | ⟨_, _, h3, h4⟩
  · exact absurd rfl h9
  · exact absurd h9 hf
  · exact ⟨h3, h1, h4.fatK.2, _, h4.fatK.1, h.rs.flip hw hr hs (fun j hj => Nat.eq_zero_of_not_pos fun h8 => hf (.inr (.inl ⟨j, hj, h8⟩))), Nat.le_trans h.bs h1.size⟩
theorem PT.flipNo (h : PT X N Rn W B hb wb bb n R ph H r s) (hn : n ≤ 64) (hR : Rn ≤ 6) {w : Nat} (hw : w < n) (hf : Low ph n w ∨ sentP H n w (ph w - 1) ∨ dueP H ph n w) : Calls Try.prog 16 #[.pointer (some ⟨hb, 0, none⟩), .int .i64 (w : Int)] W fun e W' => e = .returned (.int .i64 92) ∧ Below B W W' ∧ KT W W' ∧ PT X N Rn W' B hb wb bb n R ph H r s := by
  refine (flip_any w hw hn (h.pp hR hw) W h.mp.fat h.bs).mono fun e W' ⟨h1, h2⟩ => ?_
  rcases h2 with ⟨h9, _⟩ | ⟨_, _, h3, h4⟩ | ⟨_, h9, _⟩
  · exact absurd rfl h9
  · exact ⟨h3, h1, h4.fatK.2, h4.fatK.1, h.rs, Nat.le_trans h.bs h1.size⟩
  · exact absurd hf h9
theorem PT.drainNo (h : PT X N Rn W B hb wb bb n R ph H r s) (hn : n ≤ 64) {w : Nat} (hw : w < n) (hl : Low ph n w) : Calls Try.prog 17 #[.pointer (some ⟨hb, 0, none⟩), .int .i64 (w : Int)] W fun e W' => e = .returned (.tuple #[.slice none 0 0, .int .i64 92]) ∧ Below B W W' ∧ KT W W' ∧ PT X N Rn W' B hb wb bb n R ph H r s := (drain_low w hw hn hl W h.mp.fat).mono fun e W' ⟨k1, k2, k3⟩ => ⟨k1, k3.mono h.bs, k2.fatK.2, k2.fatK.1, h.rs, Nat.le_trans h.bs k3.size⟩
theorem Stb.baseK {c c' d : Nat → Int × Int} {m : Nat} (h : Stb ltK 0 m c d) (he : ∀ i, i < m → c i = c' i) : ∃ d', Stb ltK 0 m c' d' ∧ ∀ i, i < m → d' i = d i := by
  obtain ⟨f, g, h⟩ := h
  have hd : ∀ i, i < m → c' (f i) = d i := fun i hi => by rw [h.val i, he _ (h.inr i (Nat.zero_le _) hi).2]
  refine ⟨fun i => c' (f i), ⟨f, g, h.out, h.inr, h.li, h.ri, fun _ => rfl, fun i j hij => ?_⟩, hd⟩
  by_cases hj : j < m
  · have hi : i < m := by omega
    show f i < f j ∨ ltK (c' (f i)) (c' (f j)) = true
    rw [hd i hi, hd j hj]
    exact h.st i j hij
  · left
    have e2 := h.out j (by omega)
    by_cases hi : i < m
    · have e1 := (h.inr i (Nat.zero_le _) hi).2
      omega
    · have e1 := h.out i (by omega)
      omega
theorem PT.drainOk (h : PT X N Rn W B hb wb bb n R ph H r s) (hn : n ≤ 64) (hR : Rn ≤ 6) {w : Nat} (hw : w < n) (hr : r w < Rn) (hs : s w = onN X N w (r w) + 1) (hl : ¬ Low ph n w) : Calls Try.prog 17 #[.pointer (some ⟨hb, 0, none⟩), .int .i64 (w : Int)] W fun e W' => ∃ g d, e = .returned (.tuple #[.slice (some ⟨g, 0, none⟩) (dueT X N n (r w) w).length (dueT X N n (r w) w).length, .int .i64 0]) ∧ Own W' B 31 2 (.slice (some ⟨g, 0, none⟩) (dueT X N n (r w) w).length (dueT X N n (r w) w).length) (dueT X N n (r w) w).length (thF d) ∧ Stb ltK 0 (dueT X N n (r w) w).length (tlF (dueT X N n (r w) w)) d ∧ Srt ltK 0 (dueT X N n (r w) w).length d ∧ Below B W W' ∧ KT W W' ∧ ∃ H', PT X N Rn W' B hb wb bb n R ph H' (upN r w (r w + 1)) (upN s w 0) := by
  have hdu := h.rs.due hw hs hl
  obtain ⟨S, hS⟩ : ∃ S, sm (gln H w (par (ph w - 1)) (dueJ ph n w)) (dueN ph n w) = S := ⟨_, rfl⟩
  have hlen : (dueT X N n (r w) w).length = S := by rw [← hdu, List.length_map, List.length_range, hS]
  have hK : ∀ i, i < S → gKn H w (par (ph w - 1)) (dueJ ph n w) (dueN ph n w) i = tlF (dueT X N n (r w) w) i := fun i hi => by
    unfold tlF
    rw [← hdu, List.getD_eq_getElem?_getD, List.getElem?_map, List.getElem?_range (by rw [hS]; exact hi)]
    rfl
  rw [hlen]
  refine (drain_ok w hw hn (h.pp hR hw) hl W h.mp.fat h.bs byK_sorts (fun k hk => hk.elim) (fun _ _ => trivial) _ _ _ _ rfl rfl rfl hS).mono fun e W' ⟨g, d, k1, k2, k3, k4, k5, k6, k7, k8⟩ => ?_
  obtain ⟨d3, s1, s2⟩ := Stb.baseK k4 hK
  have k7' : Below B W W' := ⟨k7.os, k7.tape, k7.output, k7.size, fun k hk => k7.block k hk (fun e => e)⟩
  refine ⟨g, d3, k1, k3.congr fun j hj => ?_, s1, k5.congr fun i _ hi => s2 i hi, k7', k6.fatK.2, _, k6.fatK.1, h.rs.drain hw hr hs hl, Nat.le_trans h.bs k7.size⟩
  unfold thF
  rw [s2 (j / 2) (by omega)]
end
end Go.Proofs.Ytkfjcbnhohipgaa
