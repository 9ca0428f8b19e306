import Derived.Test.YtpeojhhbinfekacDoorRefParse0
import Derived.Test.YtpeojhhbinfekacDoorText3
namespace Go.Proofs.YtpeojhhbinfekacDoor
open Go.ChangeShapes Go.WideShapes Go.ChangeAt Go.RowKit

theorem answer_none {l : List UInt8} (h : ∀ t q s d k v, EvIn t q s d k v → l ≠ txt t q s d k v) : Answer l (evV 0 0 0 0 0 0) 12 := Or.inr ⟨h, rfl, rfl⟩

theorem size_set (w : World) (a : Addr) (x : Value) : (w.setCell a x).heap.size = w.heap.size := by simp
theorem wrap_in (n : Int) : -9223372036854775808 ≤ wrap64 n ∧ wrap64 n ≤ 9223372036854775807 := by
  unfold wrap64
  omega
theorem wrap_back {x : Nat} {i : Int} (h0 : -9223372036854775808 ≤ i) (h1 : i ≤ 9223372036854775807) (h : (x : Int) = i % 18446744073709551616) : wrap64 (x : Int) = i := by
  unfold wrap64
  omega
theorem Along.cand {t q : Nat} {s d k v : Int} {l : List UInt8} {fr i : Nat} {vs : Nat → Nat} (h : Along t q s d k v l fr 5 i vs) (hi : EvIn t q s d k v) :
    vs 0 = t ∧ vs 2 = q ∧ wrap64 (vs 1) = s ∧ wrap64 (vs 3) = d ∧ wrap64 (vs 4) = k ∧ wrap64 (vF ((l.drop fr).take (l.length - fr))) = v := by
  obtain ⟨h1, h2, h3, h4, h5, h6⟩ := hi
  have e : (l.drop fr).take (l.length - fr) = Lib.itoa v := by
    rw [List.take_of_length_le (by simp), h.rest]
    rfl
  rw [e]
  refine ⟨?_, ?_, ?_, ?_, ?_, ?_⟩
  · exact (h.vals 0 (by omega)).trans (vF_dec t h1)
  · exact (h.vals 2 (by omega)).trans (vF_dec q h2)
  · exact wrap_back h3.1 h3.2 (by rw [h.vals 1 (by omega)]; exact vF_itoa s h3.1 h3.2)
  · exact wrap_back h4.1 h4.2 (by rw [h.vals 3 (by omega)]; exact vF_itoa d h4.1 h4.2)
  · exact wrap_back h5.1 h5.2 (by rw [h.vals 4 (by omega)]; exact vF_itoa k h5.1 h5.2)
  · exact wrap_back h6.1 h6.2 (vF_itoa v h6.1 h6.2)

theorem vF_piece (l : List UInt8) (a b : Nat) (hl : l.length ≤ 4294967280) (w : World) :
    Calls Tryd.prog 29 #[.string ((⟨l.toArray⟩ : ByteArray).extract a b)] w fun e w' => e = .returned (.int .u64 (vF ((l.drop a).take (b - a)))) ∧ Below w.heap.size w w' := by
  rw [piece_is]
  exact vF_any _ (by simp; omega) w

set_option maxHeartbeats 4000000 in
theorem refParse_any (l : List UInt8) (hl : l.length ≤ 4294967280) (w : World) :
    Calls Tryd.prog 13 #[.string ⟨l.toArray⟩] w fun e w' => ∃ ev n, e = .returned (.tuple #[ev, .int .i64 n]) ∧ Answer l ev n ∧ Below w.heap.size w w' := by
  have hst := RP.start w
  have st0 := block6 hst.res
  go_enter Tryd.func13, Tryd.ntmps13
  by_cases h200 : 200 < l.length
  · have hno : Answer l (evV 0 0 0 0 0 0) 12 := answer_none fun t q s d k v hi he => by have := txt_len hi; rw [← he] at this; omega
    go_wp2_with fail
    refine bodyPost_ret (v := .tuple #[evV 0 0 0 0 0 0, .int .i64 12]) ?_ rfl ⟨_, _, rfl, hno, hst.below⟩
    simp [results, Tryd.results13, go_sem, st0, evV]
  · clear st0
    have HST : Hid (RP w ((w.alloc (.cells #[.int .u64 0, .int .i64 0, .int .u64 0, .int .i64 0, .int .i64 0, .int .i64 0] 26)).alloc (.cells #[.int .u64 0, .int .u64 0, .int .u64 0, .int .u64 0, .int .u64 0, .int .u64 0] 64)) (fun _ => 0)) := hst
    clear hst
    go_wp2_with fail
    go_loopw [6, 7, 8] (fun vf vk vi wr => ∃ (fr n i : Nat) (vs : Nat → Nat), vf = .int .i64 fr ∧ vk = .int .i64 n ∧ vi = .int .i64 i ∧ fr ≤ i ∧ n ≤ 5 ∧ i ≤ l.length ∧ RP w wr vs ∧ (∀ j, vs j < 18446744073709551616) ∧ (∀ t q s d k v, EvIn t q s d k v → l = txt t q s d k v → Along t q s d k v l fr n i vs)) (fun _ _ vi _ => l.length - (intOf vi).toNat)
    case atStart => exact ⟨0, 0, 0, fun _ => 0, rfl, rfl, rfl, by omega, by omega, by omega, HST.out, fun _ => by show 0 < 18446744073709551616; decide, fun t q s d k v _ h => Along.start t q s d k v l h⟩
    case round =>
      obtain ⟨fr, n, i, vs, rfl, rfl, rfl, hfi, hn, hi, hrp, hvs, hal⟩ := hrel
      by_cases hlt : i < l.length
      · by_cases h5 : n < 5
        · have hd : decide ((n : Int) < 5) = true := decide_eq_true (by omega)
          have h5i : (n : Int) < 5 := by omega
          go_wp2_with fail
          go_region
          go_wp2_with fail
          · have heq : ((((⟨l.toArray⟩ : ByteArray)[i]'(by simpa [ByteArray.size] using hlt)).toNat : Int) == (((⟨#[46, 46, 62, 58, 61]⟩ : ByteArray)[n]'h5).toNat : Int)) = true := by assumption
            have hm : l[i] = mrk n := by
              rw [mk_at n h5, beq_iff_eq] at heq
              exact UInt8.toNat_inj.1 (Int.ofNat.inj heq)
            have HAL : Hid (∀ t q s d k v, EvIn t q s d k v → l = txt t q s d k v → Along t q s d k v l fr n i vs) := hal
            clear hal
            refine (vF_piece l fr i hl _).mono ?_
            rintro e w1 ⟨rfl, b1⟩
            replace hrp := (hrp.keep (Below.refl _ _).drew).keep b1
            obtain ⟨cc, cf⟩ := hrp.cell n (by omega)
            have hv := vF_lt ((l.drop fr).take (i - fr))
            go_wp2_with fail
            go_roundw
            case rel => exact ⟨i + 1, n + 1, i + 1, fun j => if j = n then vF ((l.drop fr).take (i - fr)) else vs j, by go_num, by go_num, by go_num, by omega, by omega, by omega, hrp.set n _ (by omega), fun j => by (show (if j = n then _ else _) < _); split; exact hv; exact hvs j, fun t q s d k v hin he => (HAL.out t q s d k v hin he).hit h5 hfi hlt hm⟩
            case measure => simp [intOf]; omega
          · rename_i heq
            have hm : l[i] ≠ mrk n := by
              rw [mk_at n h5, beq_eq_false_iff_ne] at heq
              intro h
              exact heq (congrArg (fun c : UInt8 => (c.toNat : Int)) h)
            go_roundw
            case rel => exact ⟨fr, n, i + 1, vs, rfl, rfl, by go_num, by omega, hn, by omega, hrp.keep (Below.refl _ _).drew, hvs, fun t q s d k v hin he => (hal t q s d k v hin he).miss hlt (fun _ => hm)⟩
            case measure => simp [intOf]; omega
        · have hd : decide ((n : Int) < 5) = false := decide_eq_false (by omega)
          go_wp2_with fail
          go_region
          go_wp2_with fail
          go_roundw
          case rel => exact ⟨fr, n, i + 1, vs, rfl, rfl, by go_num, by omega, hn, by omega, hrp.keep (Below.refl _ _).drew, hvs, fun t q s d k v hin he => (hal t q s d k v hin he).miss hlt (fun h => absurd h h5)⟩
          case measure => simp [intOf]; omega
      · by_cases h5 : n < 5
        · have hno : Answer l (evV 0 0 0 0 0 0) 12 := answer_none fun t q s d k v hin he => (hal t q s d k v hin he).all (by omega) h5
          have h5i : (n : Int) < 5 := by omega
          have hres := block6 hrp.res
          go_wp2_with fail
          refine bodyPost_ret (v := .tuple #[evV 0 0 0 0 0 0, .int .i64 12]) ?_ rfl ⟨_, _, rfl, hno, below6 hrp.below _ _ _ _ _ _⟩
          simp [results, Tryd.results13, go_sem, hres, evV]
        · have hn5 : n = 5 := by omega
          subst hn5
          have HAL : Hid (∀ t q s d k v, EvIn t q s d k v → l = txt t q s d k v → Along t q s d k v l fr 5 i vs) := hal
          clear hal
          go_wp2_with fail
          refine (vF_piece l fr l.length hl _).mono ?_
          rintro e w1 ⟨rfl, b1⟩
          replace hrp := hrp.keep b1
          have hv := vF_lt ((l.drop fr).take (l.length - fr))
          obtain ⟨e0, f0⟩ := hrp.cell 0 (by omega)
          obtain ⟨e1, f1⟩ := hrp.cell 1 (by omega)
          obtain ⟨e2, f2⟩ := hrp.cell 2 (by omega)
          obtain ⟨e3, f3⟩ := hrp.cell 3 (by omega)
          obtain ⟨e4, f4⟩ := hrp.cell 4 (by omega)
          obtain ⟨e5, f5⟩ := hrp.cell 5 (by omega)
          have lt1 : w.heap.size + 1 < w1.heap.size := by have := hrp.size; omega
          go_wp2_with fail
          have hin : EvIn (vs 0) (vs 2) (wrap64 (vs 1)) (wrap64 (vs 3)) (wrap64 (vs 4)) (wrap64 (vF ((l.drop fr).take (l.length - fr)))) := ⟨hvs 0, hvs 2, wrap_in _, wrap_in _, wrap_in _, wrap_in _⟩
          have hr : ∀ t' q' s' d' k' v', EvIn t' q' s' d' k' v' → l = txt t' q' s' d' k' v' → vs 0 = t' ∧ vs 2 = q' ∧ wrap64 (vs 1) = s' ∧ wrap64 (vs 3) = d' ∧ wrap64 (vs 4) = k' ∧ wrap64 (vF ((l.drop fr).take (l.length - fr))) = v' := fun t' q' s' d' k' v' hi' he' => (HAL.out t' q' s' d' k' v' hi' he').cand hi'
          have hrp2 := (hrp.set 5 (vF ((l.drop fr).take (l.length - fr))) (by omega)).keep ((Below.refl _ _).alloc (Nat.le_refl _) (.cells #[.int .u64 (vs 0), .int .i64 (wrap64 (vs 1)), .int .u64 (vs 2), .int .i64 (wrap64 (vs 3)), .int .i64 (wrap64 (vs 4)), .int .i64 (wrap64 (vF ((l.drop fr).take (l.length - fr))))] 26))
          clear e0 e1 e2 e3 e4 e5 f0 f1 f2 f3 f4 f5 hrp b1 HAL hvs hv
          generalize wrap64 (vF ((l.drop fr).take (l.length - fr))) = v at hin hr hrp2 ⊢
          generalize wrap64 (vs 1) = s at hin hr hrp2 ⊢
          generalize wrap64 (vs 3) = d at hin hr hrp2 ⊢
          generalize wrap64 (vs 4) = k at hin hr hrp2 ⊢
          refine (refText_any (vs 0) (vs 2) s d k v hin.1 hin.2.1 hin.2.2.1 hin.2.2.2.1 hin.2.2.2.2.1 hin.2.2.2.2.2 _).mono ?_
          rintro e w2 ⟨rfl, b2⟩
          replace hrp2 := hrp2.keep b2
          obtain ⟨c0, c1, c2, c3, c4, c5⟩ := box6 (b2.mono (by simp))
          simp only [size_set] at c0 c1 c2 c3 c4 c5
          have hres := block6 hrp2.res
          have hB := hrp2.below
          clear hrp2 b2
          by_cases he : txt (vs 0) (vs 2) s d k v = l
          · have hs : (!(txt (vs 0) (vs 2) s d k v == l)) = false := by simp [he]
            go_wp2_with fail
            refine bodyPost_ret (v := .tuple #[evV (vs 0) (vs 2) s d k v, .int .i64 0]) ?_ rfl ⟨_, _, rfl, Or.inl ⟨_, _, s, d, k, v, hin, he.symm, rfl, rfl⟩, below6 hB _ _ _ _ _ _⟩
            simp [results, Tryd.results13, go_sem, hres, evV]
          · have hs : (!(txt (vs 0) (vs 2) s d k v == l)) = true := by simp [he]
            go_wp2_with fail
            refine bodyPost_ret (v := .tuple #[evV 0 0 0 0 0 0, .int .i64 12]) ?_ rfl ⟨_, _, rfl, answer_cand hr he, below6 hB _ _ _ _ _ _⟩
            simp [results, Tryd.results13, go_sem, hres, evV]
end Go.Proofs.YtpeojhhbinfekacDoor
