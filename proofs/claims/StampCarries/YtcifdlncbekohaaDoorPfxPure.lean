import Derived.Test.YtcifdlncbekohaaDoorUnpAll
import Derived.Test.YtcifdlncbekohaaDoorPackAll
namespace Go.Proofs.YtcifdlncbekohaaDoor
open Go.ChangeShapes Go.WideShapes Go.ChangeAt Go.RowKit

/-- no number's bytes are the beginning of another's -/
theorem enc_inj (u : Nat) : ∀ (u' : Nat) (r r' : List Nat), enc u ++ r = enc u' ++ r' → u = u' ∧ r = r' := by
  induction u using Nat.strongRecOn with
  | _ u ih =>
    intro u' r r' h
    by_cases h1 : u < 128
    · by_cases h2 : u' < 128
      · rw [enc_lo h1, enc_lo h2] at h
        simpa using h
      · rw [enc_lo h1, enc_hi h2] at h
        simp at h
        omega
    · by_cases h2 : u' < 128
      · rw [enc_hi h1, enc_lo h2] at h
        simp at h
        omega
      · rw [enc_hi h1, enc_hi h2] at h
        simp only [List.cons_append, List.cons.injEq] at h
        obtain ⟨e1, e2⟩ := ih (u / 128) (by omega) (u' / 128) r r' h.2
        exact ⟨by omega, e2⟩
theorem zig_inj {i j : Int} (h : zig i = zig j) : i = j := by
  unfold zig at h
  split at h <;> split at h <;> omega
theorem evb_inj {t q t' q' : Nat} {s d k v s' d' k' v' : Int} (h : evb t q s d k v = evb t' q' s' d' k' v') : t = t' ∧ q = q' ∧ s = s' ∧ d = d' ∧ k = k' ∧ v = v' := by
  unfold evb at h
  obtain ⟨h0, h⟩ := enc_inj _ _ _ _ h
  obtain ⟨h1, h⟩ := enc_inj _ _ _ _ h
  obtain ⟨h2, h⟩ := enc_inj _ _ _ _ h
  obtain ⟨h3, h⟩ := enc_inj _ _ _ _ h
  obtain ⟨h4, h⟩ := enc_inj _ _ _ _ h
  have h5 : zig v = zig v' := (enc_inj (zig v) (zig v') [] [] (by simpa using h)).1
  exact ⟨h0, h2, zig_inj h1, zig_inj h3, zig_inj h4, zig_inj h5⟩

def bOf (l : List Nat) : Nat → Int := fun i => ((l.getD i 0 : Nat) : Int)
theorem bOf_at {l : List Nat} {a c : Nat} {r : List Nat} (h : l.drop a = c :: r) : bOf l a = c := by
  have : l[a]? = some c := by
    have e : (l.drop a)[0]? = some c := by rw [h]; rfl
    rwa [List.getElem?_drop, Nat.add_zero] at e
  unfold bOf
  simp [List.getD, this]
theorem drop_next {l : List Nat} {a c : Nat} {r : List Nat} (h : l.drop a = c :: r) : l.drop (a + 1) = r := by
  rw [← List.drop_drop, h]
  rfl
theorem enc_pos (u : Nat) : 1 ≤ (enc u).length := by
  by_cases h : u < 128
  · rw [enc_lo h]; simp
  · rw [enc_hi h]; simp

/-- a number's bytes are read: the number if they are all there, else they are too short -/
theorem rdGo_enc (l : List Nat) (L : Nat) : ∀ (f k a u : Nat) (n : Int) (r : List Nat), k + f = 10 → (k = 0 ∨ 1 ≤ u) → u < 2 ^ (64 - 7 * k) → l.drop a = enc u ++ r → a ≤ L → 1 ≤ f →
    (a + (enc u).length ≤ L → (rdGo (bOf l) L f k a n).2 = (a + (enc u).length, 0) ∧ (rdGo (bOf l) L f k a n).1 = n + p7 k * u) ∧ (L < a + (enc u).length → (rdGo (bOf l) L f k a n).2.2 = 11)
  | 0, _, _, _, _, _, _, _, _, _, _, h1 => absurd h1 (by omega)
  | f + 1, k, a, u, n, r, hk, hu0, hu, hd, ha, _ => by
    by_cases c1 : L ≤ a
    · have hp := enc_pos u
      rw [rd_short c1]
      exact ⟨fun h => by omega, fun _ => rfl⟩
    · by_cases h : u < 128
      · have hd' := hd
        rw [enc_lo h] at hd'
        have hb := bOf_at hd'
        have c2 : ¬ ((k = 9 ∧ 1 < bOf l a) ∨ (0 < k ∧ bOf l a = 0)) := by
          rw [hb]
          intro hc
          rcases hc with ⟨rfl, hc⟩ | ⟨hc, h0⟩
          · simp at hu; omega
          · omega
        rw [rd_last c1 c2 (by rw [hb]; omega), hb, enc_lo h]
        refine ⟨fun _ => ⟨rfl, ?_⟩, fun hx => by simp at hx; omega⟩
        rw [show (u : Int) % 128 = u by omega]
      · have hd' := hd
        rw [enc_hi h] at hd'
        have hb := bOf_at hd'
        have hk9 : k ≤ 8 := by
          by_cases hk9 : k ≤ 8
          · exact hk9
          · obtain rfl : k = 9 := by omega
            simp at hu
            omega
        have c2 : ¬ ((k = 9 ∧ 1 < bOf l a) ∨ (0 < k ∧ bOf l a = 0)) := by
          rw [hb]
          omega
        have hu2 : u / 128 < 2 ^ (64 - 7 * (k + 1)) := by
          have e : (2 : Nat) ^ (64 - 7 * k) = 2 ^ (64 - 7 * (k + 1)) * 128 := by
            rw [show 64 - 7 * k = (64 - 7 * (k + 1)) + 7 by omega, Nat.pow_add]
          exact Nat.div_lt_of_lt_mul (by rw [Nat.mul_comm]; omega)
        have ih := rdGo_enc l L f (k + 1) (a + 1) (u / 128) (n + p7 k * (bOf l a % 128)) r (by omega) (Or.inr (by omega)) hu2 (drop_next hd') (by omega) (by omega)
        rw [rd_more c1 c2 (by rw [hb]; omega), enc_hi h]
        simp only [List.length_cons]
        refine ⟨fun hx => ?_, fun hx => ih.2 (by omega)⟩
        obtain ⟨i1, i2⟩ := ih.1 (by omega)
        refine ⟨by rw [i1]; congr 1; omega, ?_⟩
        rw [i2, hb, p7_succ]
        have e1 : ((128 + u % 128 : Nat) : Int) % 128 = (u : Int) % 128 := by omega
        have e2 : (u : Int) = 128 * ((u / 128 : Nat) : Int) + (u : Int) % 128 := by omega
        rw [e1, Int.add_assoc]
        congr 1
        conv => rhs; rw [e2]
        rw [Int.mul_add, Int.add_comm]
        congr 1
        rw [Int.mul_comm 128, Int.mul_assoc]
theorem rdSt_enc {l : List Nat} {L a u : Nat} {r : List Nat} (hu : u < 18446744073709551616) (hd : l.drop a = enc u ++ r) (ha : a ≤ L) :
    (a + (enc u).length ≤ L → rdSt (bOf l) L a 0 = ((u : Int), a + (enc u).length, 0)) ∧ (L < a + (enc u).length → (rdSt (bOf l) L a 0).2.2 = 11) := by
  have h := rdGo_enc l L 10 0 a u 0 r rfl (Or.inl rfl) (by simpa using hu) hd ha (by omega)
  have e : rdSt (bOf l) L a 0 = rdGo (bOf l) L 10 0 a 0 := rfl
  rw [e]
  refine ⟨fun hx => ?_, h.2⟩
  obtain ⟨h1, h2⟩ := h.1 hx
  rw [p7_0] at h2
  refine Prod.ext ?_ h1
  rw [h2]
  simp
theorem rdSt_err (B : Nat → Int) (L a : Nat) (e : Int) (h : e = 11) : (rdSt B L a e).2.2 = 11 := by
  subst h
  rfl

/-- read up to the place pos, or too short -/
def Upto (L : Nat) (x : Int × Nat × Int) (pos : Nat) : Prop := (pos ≤ L → x.2 = (pos, 0)) ∧ (L < pos → x.2.2 = 11)
theorem drop_app {l p r : List Nat} {a : Nat} (h : l.drop a = p ++ r) : l.drop (a + p.length) = r := by
  rw [← List.drop_drop, h]
  simp
theorem Upto.first {l : List Nat} {L a u : Nat} {r : List Nat} (hu : u < 18446744073709551616) (hd : l.drop a = enc u ++ r) (ha : a ≤ L) : Upto L (rdSt (bOf l) L a 0) (a + (enc u).length) := by
  have h := rdSt_enc hu hd ha
  exact ⟨fun hx => by rw [h.1 hx], h.2⟩
theorem Upto.next {l : List Nat} {L pos u : Nat} {r : List Nat} {x : Int × Nat × Int} (h : Upto L x pos) (hu : u < 18446744073709551616) (hd : l.drop pos = enc u ++ r) : Upto L (rdSt (bOf l) L x.2.1 x.2.2) (pos + (enc u).length) := by
  by_cases hp : pos ≤ L
  · rw [h.1 hp]
    exact Upto.first hu hd hp
  · have h11 := h.2 (by omega)
    exact ⟨fun hx => by omega, fun _ => rdSt_err _ _ _ _ h11⟩
theorem evR5_bytes {l : List Nat} {L a : Nat} {e : Ev} {r : List Nat} (hi : e.In) (hd : l.drop a = e.bytes ++ r) (ha : a ≤ L) : Upto L (evR5 (bOf l) L a 0) (a + e.bytes.length) := by
  have hd' : l.drop a = enc e.t ++ (enc (zig e.s) ++ (enc e.q ++ (enc (zig e.d) ++ (enc (zig e.k) ++ (enc (zig e.v) ++ r))))) := by rw [hd]; simp [Ev.bytes, evb]
  have d1 := drop_app hd'
  have d2 := drop_app d1
  have d3 := drop_app d2
  have d4 := drop_app d3
  have d5 := drop_app d4
  have u0 := Upto.first (L := L) hi.t hd' ha
  have u1 := u0.next (zig_lt _ hi.s.1 hi.s.2) d1
  have u2 := u1.next hi.q d2
  have u3 := u2.next (zig_lt _ hi.d.1 hi.d.2) d3
  have u4 := u3.next (zig_lt _ hi.k.1 hi.k.2) d4
  have u5 := u4.next (zig_lt _ hi.v.1 hi.v.2) d5
  have e1 : a + e.bytes.length = a + (enc e.t).length + (enc (zig e.s)).length + (enc e.q).length + (enc (zig e.d)).length + (enc (zig e.k)).length + (enc (zig e.v)).length := by simp [Ev.bytes, evb]; omega
  rw [e1]
  exact u5
/-- each piece of an event's bytes that is cut off behind is too short -/
theorem short_event {e : Ev} (hi : e.In) {L : Nat} (h : L < e.bytes.length) : (evR5 (bOf e.bytes) L 0 0).2.2 = 11 :=
  (evR5_bytes (l := e.bytes) (a := 0) (r := []) hi (by simp) (Nat.zero_le _)).2 (by omega)
theorem enc_two : enc 2 = [2] := enc_lo (by decide)
/-- each piece of the bytes of a list of two that is cut off behind is too short, too -/
theorem short_two {e f : Ev} (he : e.In) (hf : f.In) {L : Nat} (h : L < (enc 2 ++ evsB [e, f]).length) : (unAll (bOf (enc 2 ++ evsB [e, f])) L).2.2 = 11 := by
  have d0 : (enc 2 ++ evsB [e, f]).drop 0 = enc 2 ++ (e.bytes ++ (f.bytes ++ [])) := by simp [evsB]
  have d1 := drop_app d0
  have d2 := drop_app d1
  have r0 := rdSt_enc (L := L) (u := 2) (by decide) d0 (Nat.zero_le _)
  have er : rdSt (bOf (enc 2 ++ evsB [e, f])) L 0 0 = rdNum (bOf (enc 2 ++ evsB [e, f])) L 0 := rfl
  rw [er] at r0
  have hlen : (enc 2 ++ evsB [e, f]).length = 0 + (enc 2).length + e.bytes.length + f.bytes.length := by simp [evsB]; omega
  by_cases h0 : 0 + (enc 2).length ≤ L
  · have hr := r0.1 h0
    have u1 := evR5_bytes he d1 h0
    have e1 : unAll (bOf (enc 2 ++ evsB [e, f])) L = unLoop (bOf (enc 2 ++ evsB [e, f])) L 2 (0 + (enc 2).length) [] := by
      unfold unAll
      rw [hr]
      rfl
    rw [e1]
    by_cases h1 : 0 + (enc 2).length + e.bytes.length ≤ L
    · have u2 := evR5_bytes hf d2 h1
      have h11 := u2.2 (by omega)
      rw [unLoop, u1.1 h1, if_pos rfl, unLoop, h11, if_neg (by decide)]
    · have h11 := u1.2 (by omega)
      rw [unLoop, h11, if_neg (by decide)]
  · have h11 := r0.2 (by omega)
    unfold unAll
    rw [h11, if_neg (by decide)]
end Go.Proofs.YtcifdlncbekohaaDoor
