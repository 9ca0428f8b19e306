import Derived.Test.YtcibmbcfpecgpaaRefRd2
import Derived.Deep.AppendLies
import Derived.Laws.CopyOwn
import Derived.Deep.LoopGhost
namespace Go.Proofs.Ytcibmbcfpecgpaa
open Go.ChangeShapes Go.WideShapes Go.ChangeAt Go.RowKit

def bytesL (B : Nat → Int) (L : Nat) : List Value := (List.range L).map fun i => Value.int .u8 (B i)
theorem bytesL_len (B : Nat → Int) (L : Nat) : (bytesL B L).length = L := by simp [bytesL]
theorem bytesL_get {B : Nat → Int} {L i : Nat} (h : i < L) : (bytesL B L)[i]? = some (.int .u8 (B i)) := by simp [bytesL, h]
theorem bytesL_one (B : Nat → Int) (L : Nat) : ∀ u ∈ bytesL B L, u.oneCell' = true := by
  intro u hu
  simp [bytesL] at hu
  obtain ⟨i, _, rfl⟩ := hu
  rfl
theorem addr_add (b off i : Nat) : (⟨b, off, none⟩ : Addr).add i = ⟨b, off + i, none⟩ := by
  unfold Addr.add
  by_cases hi : i = 0 <;> simp [hi]

theorem Try.info5 : (Try.prog.info? 5).map (fun i => (i.zero, i.size, i.bytes)) = some (some (.int .u8 0), 1, 1) := by kernel_rfl

theorem ownsRow_own {w : World} {base E g n cap : Nat} {cs : Array Value} (h : w.heap[g]? = some (.cells cs E (0, 0))) (hb : base ≤ g) (hn : n ≤ cap) (hc : cap ≤ maxLen) (hs : cs.size = cap) : w.ownsRow base E 1 (.slice (some ⟨g, 0, none⟩) n cap) n (cs.toList.take n) :=
  ⟨by simp; omega, .inr ⟨g, cap, cs, rfl, hb, h, hn, hc, by omega, by simp⟩⟩

set_option maxHeartbeats 1000000 in
theorem copyBytes_any (sl : Option Addr) (L cap : Nat) (B : Nat → Int) (w : World) (hL : L ≤ 140737488355328) (h : BytesAt w sl L B) :
    Calls Try.prog 23 #[.slice sl L cap] w fun r w' => r = .returned (.slice (some ⟨w.heap.size, 0, none⟩) L L) ∧ w'.ownsRow w.heap.size 5 1 (.slice (some ⟨w.heap.size, 0, none⟩) L L) L (bytesL B L) ∧ Below w.heap.size w w' ∧ w.heap.size < w'.heap.size := by
  obtain ⟨i5, hi5, ha5, hb5, hc5⟩ := info_parts Try.info5
  have hsz : (Try.prog.info? 5).map (·.size) = some 1 := by simp [hi5, hb5]
  go_enter Try.func23, Try.ntmps23
  go_wp2_with (at_make; refine wpList_make_full _ rfl (.tmp 5) (.tmp 5) 29 rfl w.heap.size 5 i5 (.int .u8 0) 1 Try.underlying29 hi5 ha5 hb5 .i64 .i64 L L L rfl rfl rfl rfl ?c1 ?c2 ?c3 ?_)
  case c1 => rw [hc5]; omega
  case c2 => unfold maxLen; omega
  case c3 => exact Nat.le_refl _
  intro w1 hown hgrow
  obtain ⟨cur, hcur, hcs⟩ : ∃ cur : List Value, w1.heap[w.heap.size]? = some (.cells cur.toArray 5 (0, 0)) ∧ cur.length = L := by
    obtain ⟨_, hx | ⟨g', cap', cur, hv, _, hh, _, _, hs, _⟩⟩ := hown
    · simp at hx
    · simp at hv
      obtain ⟨rfl, rfl⟩ := hv
      exact ⟨cur.toList, by simpa using hh, by simpa using hs⟩
  have hb1 : Below w.heap.size w w1 := (Below.refl _ _).grown hgrow (Nat.le_refl _) (by simp)
  have hlt1 : w.heap.size < w1.heap.size := lt_of_block hcur
  have hB1 := h.below hb1
  have HC : Hid (w1.heap[w.heap.size]? = some (.cells cur.toArray 5 (0, 0))) := hcur
  clear hown hgrow hcur
  go_wp2_with (refine wpList_copy_splice rfl (.tmp 7) (.tmp 8) 29 29 rfl 5 Try.underlying29 hsz (some ⟨w.heap.size, 0, none⟩) sl L L L cap rfl rfl w.heap.size 0 cur 5 HC.out (bytesL B L) ?d1 ?d2 ?d3 (bytesL_one B L) w.heap.size w hb1 (Nat.le_refl _) ?_)
  case d1 => rw [bytesL_len]; simp
  case d2 =>
    intro hp
    rw [bytesL_len] at hp
    obtain ⟨hx | ⟨b, off, rfl, hlt, hc⟩, _⟩ := hB1
    · omega
    · refine ⟨⟨b, off, none⟩, rfl, fun j v hj => ?_⟩
      have hjl : j < L := by
        rcases Nat.lt_or_ge j L with z | z
        · exact z
        · rw [List.getElem?_eq_none (by rw [bytesL_len]; exact z)] at hj; simp at hj
      rw [bytesL_get hjl] at hj
      rw [addr_add, hc j hjl]
      exact hj
  case d3 => rw [bytesL_len]; omega
  intro w2 hh2 hb2
  have hfull : splice cur 0 (bytesL B L) = bytesL B L := by
    simp [splice, bytesL_len]
    omega
  have H2 : Hid (w2.heap[w.heap.size]? = some (.cells (bytesL B L).toArray 5 (0, 0))) := by rw [← hfull]; exact hh2
  clear hh2 HC
  go_wp2
  go_ret
  refine ⟨rfl, ?_, hb2, lt_of_block H2.out⟩
  have := ownsRow_own (n := L) (cap := L) H2.out (Nat.le_refl _) (Nat.le_refl _) (by unfold maxLen; omega) (by simp [bytesL_len])
  simpa [List.take_of_length_le, bytesL_len] using this
end Go.Proofs.Ytcibmbcfpecgpaa
