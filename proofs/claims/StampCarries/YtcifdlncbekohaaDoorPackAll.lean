import Derived.Test.YtcifdlncbekohaaDoorAppEv
namespace Go.Proofs.YtcifdlncbekohaaDoor
open Go.ChangeShapes Go.WideShapes Go.ChangeAt Go.RowKit

set_option maxHeartbeats 2000000 in
theorem packAll_any (es : List Ev) (sl : Option Addr) (cap : Nat) (w : World) (h : EvsAt w sl es) (hL : es.length ≤ 1000000000000) :
    Calls Tryd.prog 5 #[.slice sl es.length cap] w fun e w' => ∃ v', e = .returned v' ∧ w'.ownsRow w.heap.size 5 1 v' (enc es.length ++ evsB es).length (bcs (enc es.length ++ evsB es)) ∧ Below w.heap.size w w' := by
  go_enter Tryd.func5, Tryd.ntmps5
  go_wp2_with fail
  refine (appNum_any w.heap.size 0 es.length (by omega) (.slice none 0 0) [] w (World.ownsRow_nil _ _ _ _) (Nat.le_refl _) (by decide)).mono ?_
  rintro e w1 ⟨v1, rfl, o1, g1⟩
  have b1 : Below w.heap.size w w1 := g1.below (fun j hj => by cases hj) (Nat.le_refl _)
  have o1' : w1.ownsRow w.heap.size 5 1 v1 (enc es.length ++ evsB (es.take 0)).length (bcs (enc es.length ++ evsB (es.take 0))) := by simpa [evsB] using o1
  have HO : Hid (w1.ownsRow w.heap.size 5 1 v1 (enc es.length ++ evsB (es.take 0)).length (bcs (enc es.length ++ evsB (es.take 0)))) := o1'
  have l10 := enc_len10 es.length (by omega)
  have HH : Hid (EvsAt w sl es) := h
  clear o1 o1' g1 h
  go_wp2_with fail
  go_loopw [3, 12] (fun vb vi wr => ∃ i : Nat, vi = .int .i64 i ∧ i ≤ es.length ∧ wr.ownsRow w.heap.size 5 1 vb (enc es.length ++ evsB (es.take i)).length (bcs (enc es.length ++ evsB (es.take i))) ∧ Below w.heap.size w wr) (fun _ vi _ => es.length - (intOf vi).toNat)
  case atStart => exact ⟨0, rfl, Nat.zero_le _, HO.out, b1⟩
  case round =>
    obtain ⟨i, rfl, hi, ho, hb⟩ := hrel
    by_cases hlt : i < es.length
    · have hE := HH.out.below hb
      obtain ⟨hx | ⟨b, off, rfl, hbl, hc⟩, hin⟩ := hE
      · omega
      obtain ⟨c0, c1, c2, c3, c4, c5⟩ := hc i hlt
      have hI := hin es[i] (List.getElem_mem hlt)
      have hle := evsB_len (es.take i) (fun x hx => hin x (List.mem_of_mem_take hx))
      have hnx : evsB (es.take (i + 1)) = evsB (es.take i) ++ es[i].bytes := by rw [List.take_succ_eq_append_getElem hlt, evsB_app]; simp [evsB]
      have HX : Hid (evsB (es.take (i + 1)) = evsB (es.take i) ++ es[i].bytes ∧ (evsB (es.take i)).length ≤ 60 * es.length) := ⟨hnx, by have := List.length_take_le i es; omega⟩
      clear hc hin hle hnx
      generalize es[i] = ev at *
      have i0 : (0 : Int) ≤ (i : Int) := by omega
      have i1 : (i : Int) < (es.length : Int) := by omega
      have hsz := hb.size
      go_wp2_with fail
      have ho2 := ho.alloc (.cells #[.int .u64 ev.t, .int .i64 ev.s, .int .u64 ev.q, .int .i64 ev.d, .int .i64 ev.k, .int .i64 ev.v] 36)
      refine (appEv_any w.heap.size _ ev.t ev.q ev.s ev.d ev.k ev.v hI.t hI.q hI.s hI.d hI.k hI.v _ _ _ ho2 (by simp; omega) (by have := HX.out.2; simp; omega)).mono ?_
      rintro e w2 ⟨v2, rfl, o2, g2⟩
      have b2 : Below w.heap.size w w2 := (hb.alloc hsz _).trans (g2.below (fun j hj => (ho.lt j hj).1) (by simp; omega))
      clear ho ho2 g2 c0 c1 c2 c3 c4 c5
      have HO2 : Hid (w2.ownsRow w.heap.size 5 1 v2 ((enc es.length ++ evsB (es.take i)).length + (evb ev.t ev.q ev.s ev.d ev.k ev.v).length) (bcs (enc es.length ++ evsB (es.take i)) ++ bcs (evb ev.t ev.q ev.s ev.d ev.k ev.v))) := o2
      clear o2
      go_wp2_with fail
      go_roundw
      case rel =>
        refine ⟨i + 1, by go_num, by omega, ?_, b2⟩
        rw [HX.out.1, ← List.append_assoc, List.length_append (bs := ev.bytes), bcs_app]
        exact HO2.out
      case measure => simp [intOf]; omega
    · have HF : Hid (enc es.length ++ evsB (es.take i) = enc es.length ++ evsB es) := by rw [List.take_of_length_le (by omega)]; exact rfl
      have HO2 : Hid (wr.ownsRow w.heap.size 5 1 u3 (enc es.length ++ evsB (es.take i)).length (bcs (enc es.length ++ evsB (es.take i)))) := ho
      clear ho
      go_wp2_with fail
      go_ret
      refine ⟨_, rfl, ?_, hb⟩
      rw [← HF.out]
      exact HO2.out
end Go.Proofs.YtcifdlncbekohaaDoor
