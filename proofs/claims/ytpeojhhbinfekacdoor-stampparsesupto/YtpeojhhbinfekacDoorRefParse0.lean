import Derived.Test.YtpeojhhbinfekacDoorVal
namespace Go.Proofs.YtpeojhhbinfekacDoor
open Go.ChangeShapes Go.WideShapes Go.ChangeAt Go.RowKit

/-- the six pieces of an event's text, and the five marks -/
def pc (t q : Nat) (s d k v : Int) : Nat → List UInt8
  | 0 => Lib.decDigits t
  | 1 => Lib.itoa s
  | 2 => Lib.decDigits q
  | 3 => Lib.itoa d
  | 4 => Lib.itoa k
  | _ => Lib.itoa v
def mrk : Nat → UInt8
  | 0 => 46
  | 1 => 46
  | 2 => 62
  | 3 => 58
  | _ => 61
/-- the text from piece n on -/
def rst (t q : Nat) (s d k v : Int) : Nat → List UInt8
  | 0 => txt t q s d k v
  | 1 => Lib.itoa s ++ ([46] ++ (Lib.decDigits q ++ ([62] ++ (Lib.itoa d ++ ([58] ++ (Lib.itoa k ++ ([61] ++ Lib.itoa v)))))))
  | 2 => Lib.decDigits q ++ ([62] ++ (Lib.itoa d ++ ([58] ++ (Lib.itoa k ++ ([61] ++ Lib.itoa v)))))
  | 3 => Lib.itoa d ++ ([58] ++ (Lib.itoa k ++ ([61] ++ Lib.itoa v)))
  | 4 => Lib.itoa k ++ ([61] ++ Lib.itoa v)
  | _ => Lib.itoa v
theorem lt5 {n : Nat} (h : n < 5) : n = 0 ∨ n = 1 ∨ n = 2 ∨ n = 3 ∨ n = 4 := by omega
theorem rst_step (t q : Nat) (s d k v : Int) (n : Nat) (h : n < 5) : rst t q s d k v n = pc t q s d k v n ++ mrk n :: rst t q s d k v (n + 1) := by
  rcases lt5 h with rfl | rfl | rfl | rfl | rfl <;> rfl
theorem pc_no (t q : Nat) (s d k v : Int) (n : Nat) (h : n < 5) : ∀ c ∈ pc t q s d k v n, c ≠ mrk n := by
  rcases lt5 h with rfl | rfl | rfl | rfl | rfl
  · exact no_dec t 46 (by decide)
  · exact no_itoa s 46 (by decide)
  · exact no_dec q 62 (by decide)
  · exact no_itoa d 58 (by decide)
  · exact no_itoa k 61 (by decide)
theorem mk_at (n : Nat) (h : n < 5) : (⟨#[46, 46, 62, 58, 61]⟩ : ByteArray)[n]'h = mrk n := by
  rcases lt5 h with rfl | rfl | rfl | rfl | rfl <;> rfl

/-- the way along an event's text: what has been read of it -/
structure Along (t q : Nat) (s d k v : Int) (l : List UInt8) (fr n i : Nat) (vs : Nat → Nat) : Prop where
  rest : l.drop fr = rst t q s d k v n
  near : n < 5 → i ≤ fr + (pc t q s d k v n).length
  vals : ∀ j, j < n → vs j = vF (pc t q s d k v j)

theorem Along.start (t q : Nat) (s d k v : Int) (l : List UInt8) (h : l = txt t q s d k v) : Along t q s d k v l 0 0 0 (fun _ => 0) :=
  ⟨by rw [h]; rfl, fun _ => Nat.zero_le _, fun j hj => absurd hj (by omega)⟩

section
variable {t q : Nat} {s d k v : Int} {l : List UInt8} {fr n i : Nat} {vs : Nat → Nat}
theorem Along.len (h : Along t q s d k v l fr n i vs) (hn : n < 5) : fr + (pc t q s d k v n).length < l.length := by
  have := congrArg List.length (h.rest.trans (rst_step t q s d k v n hn))
  simp at this
  omega
theorem Along.mark (h : Along t q s d k v l fr n i vs) (hn : n < 5) (hi : fr + (pc t q s d k v n).length < l.length) : l[fr + (pc t q s d k v n).length] = mrk n := by
  have e := h.rest.trans (rst_step t q s d k v n hn)
  have e2 : (l.drop fr)[(pc t q s d k v n).length]? = some (mrk n) := by rw [e]; simp
  rw [List.getElem?_drop, List.getElem?_eq_getElem hi] at e2
  exact Option.some.inj e2
theorem Along.inner (h : Along t q s d k v l fr n i vs) (hn : n < 5) (hfi : fr ≤ i) (hi : i < l.length) (hlt : i < fr + (pc t q s d k v n).length) : l[i] ≠ mrk n := by
  have e := h.rest.trans (rst_step t q s d k v n hn)
  have hj : i - fr < (pc t q s d k v n).length := by omega
  have e2 : (l.drop fr)[i - fr]? = some ((pc t q s d k v n)[i - fr]) := by rw [e, List.getElem?_append_left hj, List.getElem?_eq_getElem hj]
  rw [List.getElem?_drop, show fr + (i - fr) = i by omega, List.getElem?_eq_getElem hi] at e2
  rw [Option.some.inj e2]
  exact pc_no t q s d k v n hn _ (List.getElem_mem hj)
theorem Along.hit (h : Along t q s d k v l fr n i vs) (hn : n < 5) (hfi : fr ≤ i) (hi : i < l.length) (hm : l[i] = mrk n) :
    Along t q s d k v l (i + 1) (n + 1) (i + 1) (fun j => if j = n then vF ((l.drop fr).take (i - fr)) else vs j) := by
  have hnear := h.near hn
  have he : i = fr + (pc t q s d k v n).length := by
    by_cases hc : i < fr + (pc t q s d k v n).length
    · exact absurd hm (h.inner hn hfi hi hc)
    · omega
  have e := h.rest.trans (rst_step t q s d k v n hn)
  refine ⟨?_, fun _ => by omega, fun j hj => ?_⟩
  · have e3 : l.drop (i + 1) = (l.drop fr).drop ((pc t q s d k v n).length + 1) := by rw [List.drop_drop]; congr 1; omega
    rw [e3, e]
    simp
  · by_cases hjn : j = n
    · subst hjn
      rw [if_pos (by rfl), e]
      congr 1
      rw [show i - fr = (pc t q s d k v j).length by omega]
      simp
    · rw [if_neg hjn]
      exact h.vals j (by omega)
theorem Along.miss (h : Along t q s d k v l fr n i vs) (hi : i < l.length) (hm : n < 5 → l[i] ≠ mrk n) : Along t q s d k v l fr n (i + 1) vs := by
  refine ⟨h.rest, fun hn => ?_, h.vals⟩
  have hnear := h.near hn
  by_cases hc : i = fr + (pc t q s d k v n).length
  · subst hc
    exact absurd (h.mark hn hi) (hm hn)
  · omega
theorem Along.all (h : Along t q s d k v l fr n i vs) (hi : l.length ≤ i) : ¬ n < 5 := by
  intro hn
  have := h.near hn
  have := h.len hn
  omega
end

theorem txt_len {t q : Nat} {s d k v : Int} (h : EvIn t q s d k v) : (txt t q s d k v).length ≤ 200 := by
  obtain ⟨h1, h2, h3, h4, h5, h6⟩ := h
  have lt := dec_len t h1
  have lq := dec_len q h2
  have ls := itoa_len s h3.1 h3.2
  have ld := itoa_len d h4.1 h4.2
  have lk := itoa_len k h5.1 h5.2
  have lv := itoa_len v h6.1 h6.2
  simp [txt]
  omega

/-- the memory of the call: the array of six numbers, the place of the answer -/
structure RP (w wr : World) (vs : Nat → Nat) : Prop where
  blk : wr.heap[w.heap.size + 1]? = some (.cells #[.int .u64 (vs 0), .int .u64 (vs 1), .int .u64 (vs 2), .int .u64 (vs 3), .int .u64 (vs 4), .int .u64 (vs 5)] 64 (0, 0))
  res : wr.heap[w.heap.size]? = some (.cells #[.int .u64 0, .int .i64 0, .int .u64 0, .int .i64 0, .int .i64 0, .int .i64 0] 26 (0, 0))
  below : Below w.heap.size w wr
  size : w.heap.size + 2 ≤ wr.heap.size

theorem RP.keep {w wr wr' : World} {vs : Nat → Nat} (h : RP w wr vs) (hb : Below wr.heap.size wr wr') : RP w wr' vs := by
  have hs := h.size
  exact ⟨(hb.block _ (by omega)).trans h.blk, (hb.block _ (by omega)).trans h.res, h.below.trans (hb.mono (by omega)), Nat.le_trans hs hb.size⟩
theorem lt6 {n : Nat} (h : n < 6) : n = 0 ∨ n = 1 ∨ n = 2 ∨ n = 3 ∨ n = 4 ∨ n = 5 := by omega
theorem RP.set {w wr : World} {vs : Nat → Nat} (h : RP w wr vs) (n x : Nat) (hn : n < 6) : RP w (wr.setCell ⟨w.heap.size + 1, n, none⟩ (.int .u64 x)) (fun j => if j = n then x else vs j) := by
  refine ⟨?_, ?_, h.below.setCell (p := ⟨w.heap.size + 1, n, none⟩) (by show w.heap.size ≤ w.heap.size + 1; omega) _, by simpa using h.size⟩
  · rcases lt6 hn with rfl | rfl | rfl | rfl | rfl | rfl <;> simp [World.setCell, Array.getElem?_modify, h.blk]
  · rw [Below.heap_setCell _ _ _ _ (by show w.heap.size ≠ w.heap.size + 1; omega)]
    exact h.res
theorem RP.cell {w wr : World} {vs : Nat → Nat} (h : RP w wr vs) (n : Nat) (hn : n < 6) : wr.cell? ⟨w.heap.size + 1, n, none⟩ = some (.int .u64 (vs n)) ∧ wr.frozen? ⟨w.heap.size + 1, n, none⟩ = false := by
  rcases lt6 hn with rfl | rfl | rfl | rfl | rfl | rfl <;> simp [World.cell?, World.frozen?, h.blk]
theorem RP.start (w : World) : RP w ((w.alloc (.cells #[.int .u64 0, .int .i64 0, .int .u64 0, .int .i64 0, .int .i64 0, .int .i64 0] 26)).alloc (.cells #[.int .u64 0, .int .u64 0, .int .u64 0, .int .u64 0, .int .u64 0, .int .u64 0] 64)) (fun _ => 0) := by
  refine ⟨?_, ?_, ((Below.refl _ _).alloc (Nat.le_refl _) _).alloc (by simp) _, by simp⟩
  · simpa using heap_alloc_new (w.alloc (.cells #[.int .u64 0, .int .i64 0, .int .u64 0, .int .i64 0, .int .i64 0, .int .i64 0] 26)) (.cells #[.int .u64 0, .int .u64 0, .int .u64 0, .int .u64 0, .int .u64 0, .int .u64 0] 64)
  · rw [Below.heap_alloc _ _ _ (by simp)]
    exact heap_alloc_new w _

theorem piece_is (l : List UInt8) (a b : Nat) : (⟨l.toArray⟩ : ByteArray).extract a b = ⟨((l.drop a).take (b - a)).toArray⟩ := by
  apply ByteArray.ext
  simp [List.extract_eq_take_drop]
end Go.Proofs.YtpeojhhbinfekacDoor
