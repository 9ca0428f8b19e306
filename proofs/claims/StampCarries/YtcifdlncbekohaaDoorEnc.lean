import Derived.Test.YtcifdlncbekohaaDoorRows
import Derived.WalkKit
import Derived.ProofKit
import Derived.OpenShut
import Derived.Below
import Derived.Deep.AppendLies
import Derived.WalkLawsBesides
import Derived.Deep.RegionHeld3
import Derived.Laws.BitsAllLaws
namespace Go.Proofs.YtcifdlncbekohaaDoor
open Go.ChangeShapes Go.WideShapes Go.ChangeAt Go.RowKit

/-- a number's bytes -/
def enc (n : Nat) : List Nat := if h : n < 128 then [n] else (128 + n % 128) :: enc (n / 128)
termination_by n
decreasing_by omega
theorem enc_lo {n : Nat} (h : n < 128) : enc n = [n] := by rw [enc, dif_pos h]
theorem enc_hi {n : Nat} (h : ¬ n < 128) : enc n = (128 + n % 128) :: enc (n / 128) := by rw [enc, dif_neg h]
theorem enc_len : ∀ (f n : Nat), n < 128 ^ f → 0 < f → (enc n).length ≤ f
  | 0, _, _, h => absurd h (by omega)
  | f + 1, n, hn, _ => by
    by_cases h : n < 128
    · rw [enc_lo h]; simp
    · rw [enc_hi h]
      have h2 : n / 128 < 128 ^ f := Nat.div_lt_of_lt_mul (by rw [Nat.pow_succ] at hn; omega)
      have hf : 0 < f := by
        rcases Nat.eq_zero_or_pos f with rfl | hf
        · simp at h2; omega
        · exact hf
      have := enc_len f (n / 128) h2 hf
      simp
      omega
theorem enc_len10 (n : Nat) (h : n < 18446744073709551616) : (enc n).length ≤ 10 := enc_len 10 n (by omega) (by decide)
theorem enc_byte (n : Nat) : ∀ c ∈ enc n, c < 256 := by
  induction n using Nat.strongRecOn with
  | _ n ih =>
    intro c hc
    by_cases h : n < 128
    · rw [enc_lo h] at hc; simp at hc; omega
    · rw [enc_hi h] at hc
      rcases List.mem_cons.1 hc with rfl | hc
      · omega
      · exact ih (n / 128) (by omega) c hc
def bcs (l : List Nat) : List Value := l.map fun (c : Nat) => Value.int .u8 (c : Int)
theorem bcs_app (a b : List Nat) : bcs (a ++ b) = bcs a ++ bcs b := by simp [bcs]
theorem bcs_len (a : List Nat) : (bcs a).length = a.length := by simp [bcs]

theorem Tryd.info5' : (Tryd.prog.info? 5).map (fun i => (i.zero, i.size, i.bytes)) = some (some (.int .u8 0), 1, 1) := by kernel_rfl
theorem news_one' (W : World) (x : Value) (T : TypeId) (A : Nat) (hA : A = W.heap.size) : ∀ j u, [x][j]? = some u → (W.alloc (.cells #[x] T)).cell? ((⟨A, 0, none⟩ : Addr).add j) = some u := by
  subst hA
  exact World.news_of_block (cs := #[x]) (heap_alloc_new W _)

/-- what a way that appends to the row of its own leaves: every block but the row's is what it was; the row is the old one or a new one -/
structure Gw (w w' : World) (sv v : Value) : Prop where
  grown : w.grownBy w' sv.ownBlock
  own : ∀ k, v.ownBlock = some k → k < w.heap.size → sv.ownBlock = some k
theorem Gw.refl (w : World) (sv : Value) : Gw w w sv sv := ⟨⟨rfl, rfl, rfl, Nat.le_refl _, fun _ _ _ => rfl⟩, fun _ h _ => h⟩
theorem Gw.trans {w w1 w2 : World} {sv v1 v2 : Value} (h : Gw w w1 sv v1) (k : Gw w1 w2 v1 v2) : Gw w w2 sv v2 := by
  refine ⟨⟨k.grown.os.trans h.grown.os, k.grown.tape.trans h.grown.tape, k.grown.output.trans h.grown.output, Nat.le_trans h.grown.size k.grown.size, fun j hj hne => ?_⟩, fun j hj hlt => ?_⟩
  · rw [k.grown.block j (Nat.lt_of_lt_of_le hj h.grown.size) (fun e => hne (h.own j e.symm hj).symm)]
    exact h.grown.block j hj hne
  · exact h.own j (k.own j hj (Nat.lt_of_lt_of_le hlt h.grown.size)) hlt
theorem Gw.step {w y : World} {sv : Value} {o : Obj} {g n cap : Nat} (q : (w.alloc o).grownBy y sv.ownBlock) (hg : sv.ownBlock = some g ∨ g = w.heap.size + 1) : Gw w y sv (.slice (some ⟨g, 0, none⟩) n cap) := by
  refine ⟨⟨q.os, q.tape, q.output, Nat.le_trans (by simp) q.size, fun j hj hne => ?_⟩, fun j hj hlt => ?_⟩
  · rw [q.block j (by simp; omega) hne]
    exact Below.heap_alloc w o j hj
  · have e : g = j := by simpa [Value.ownBlock] using hj
    subst e
    rcases hg with h | h
    · exact h
    · omega
theorem Gw.below {w w' : World} {sv v : Value} {B : Nat} (h : Gw w w' sv v) (hB : ∀ k, sv.ownBlock = some k → B ≤ k) (hw : B ≤ w.heap.size) : Below B w w' :=
  ⟨h.grown.os, h.grown.tape, h.grown.output, h.grown.size, fun k hk => h.grown.block k (by omega) (fun e => by have := hB k e.symm; omega)⟩

theorem or128 (u : Nat) : bits BinOp.or IntKind.u8 ((u : Int) % 256) 128 = ((128 + u % 128 : Nat) : Int) := by
  have h : ∀ a : Nat, a < 256 → bits BinOp.or IntKind.u8 (a : Int) 128 = ((128 + a % 128 : Nat) : Int) := by decide +kernel
  have h1 := h (u % 256) (by omega)
  rw [show ((u % 256 : Nat) : Int) = (u : Int) % 256 by omega] at h1
  rw [h1]
  congr 2
  omega

set_option maxRecDepth 100000 in
set_option maxHeartbeats 2000000 in
theorem appNum_any (B n z : Nat) (hu : z < 18446744073709551616) (sv : Value) (xs : List Value) (w : World) (hown : w.ownsRow B 5 1 sv n xs) (hBw : B ≤ w.heap.size) (hlim : n + 10 ≤ 140737488355328) :
    Calls Tryd.prog 18 #[sv, .int .u64 z] w fun e w' => ∃ v', e = .returned v' ∧ w'.ownsRow B 5 1 v' (n + (enc z).length) (xs ++ bcs (enc z)) ∧ Gw w w' sv v' := by
  obtain ⟨i5, hi5, ha5, hb5, hc5⟩ := info_parts Tryd.info5'
  have hl := enc_len10 z hu
  have HL : Hid (n + 10 ≤ 140737488355328) := hlim
  clear hlim
  go_enter Tryd.func18, Tryd.ntmps18
  go_wp2_with fail
  go_loopw [0, 1] (fun vb vn wr => ∃ (u : Nat) (pre : List Nat), vn = .int .u64 u ∧ u ≤ z ∧ enc z = pre ++ enc u ∧ wr.ownsRow B 5 1 vb (n + pre.length) (xs ++ bcs pre) ∧ Gw w wr sv vb) (fun _ vn _ => (intOf vn).toNat)
  case atStart => exact ⟨z, [], rfl, Nat.le_refl _, rfl, by simpa [bcs] using hown, Gw.refl _ _⟩
  case round =>
    obtain ⟨u, pre, rfl, hle, he, ho, hb⟩ := hrel
    have hpl : pre.length + (enc u).length ≤ 10 := by have := congrArg List.length he; simp at this; omega
    have hsz := Nat.le_trans hBw hb.grown.size
    have HE : Hid (enc z = pre ++ enc u) := he
    clear he
    by_cases h128 : u < 128
    · have hel : (enc u).length = 1 := by rw [enc_lo h128]; rfl
      go_wp2_with (at_builtin; refine wpList_append_lies _ rfl (.tmp 15) (.tmp 18) 23 rfl B 5 i5 (.int .u8 0) 1 1 Tryd.underlying23 hi5 ha5 hb5 hc5 rfl (by decide) u0 _ _ rfl (ho.alloc _) ⟨wr.heap.size, 0, none⟩ 1 1 [.int .u8 u] rfl rfl ?cA ?cB (by decide) ?cC ?cD ?cE (wr.heap.size + 1) ?cF ?_)
      case cA => exact news_one' _ _ _ _ rfl
      case cB => intro x hx; simp at hx; subst hx; rfl
      case cC => have := HL.out; unfold maxLen; omega
      case cD => have := HL.out; omega
      case cE => simp; omega
      case cF => simp
      intro g cap y p q hg _
      have r := Gw.step (n := n + pre.length + 1) (cap := cap) q hg
      go_wp2_with fail
      go_ret
      have e1 : (pre ++ enc u).length = pre.length + 1 := by simp [hel]
      refine ⟨_, rfl, ?_, hb.trans r⟩
      rw [HE.out, e1, enc_lo h128, bcs_app]
      exact p
    · have hel : 1 ≤ (enc u).length := by rw [enc_hi h128]; simp
      have e0 : (0 : Int) ≤ bits BinOp.or IntKind.u8 ((u : Int) % 256) 128 := by rw [or128]; omega
      go_wp2_with (at_builtin; refine wpList_append_lies _ rfl (.tmp 7) (.tmp 11) 23 rfl B 5 i5 (.int .u8 0) 1 1 Tryd.underlying23 hi5 ha5 hb5 hc5 rfl (by decide) u0 _ _ rfl (ho.alloc _) ⟨wr.heap.size, 0, none⟩ 1 1 [.int .u8 (bits BinOp.or IntKind.u8 ((u : Int) % 256) 128)] rfl rfl ?cA ?cB (by decide) ?cC ?cD ?cE (wr.heap.size + 1) ?cF ?_)
      case cA => exact news_one' _ _ _ _ rfl
      case cB => intro x hx; simp at hx; subst hx; rfl
      case cC => have := HL.out; unfold maxLen; omega
      case cD => have := HL.out; omega
      case cE => simp; omega
      case cF => simp
      intro g cap y p q hg _
      have r := Gw.step (n := n + pre.length + 1) (cap := cap) q hg
      go_wp2_with fail
      go_roundw
      case rel =>
        refine ⟨u / 128, pre ++ [128 + u % 128], ?_, by omega, by rw [HE.out, enc_hi h128]; simp, ?_, hb.trans r⟩
        · go_num
        · rw [or128] at p
          simpa [bcs, Nat.add_assoc] using p
      case measure => simp [intOf]; omega

/-- a number with sign, as a number -/
def zig (i : Int) : Nat := if 0 ≤ i then (2 * i).toNat else (-2 * i - 1).toNat
theorem zig_lt (i : Int) (h0 : -9223372036854775808 ≤ i) (h1 : i ≤ 9223372036854775807) : zig i < 18446744073709551616 := by unfold zig; split <;> omega
theorem not_max {m : Int} (h0 : 0 ≤ m) (h1 : m ≤ 18446744073709551615) : bits .xor .u64 IntKind.u64.max m = 18446744073709551615 - m := by
  obtain ⟨n, rfl⟩ := Int.eq_ofNat_of_zero_le h0
  show IntKind.u64.wrap ((BitVec.ofInt 64 18446744073709551615 ^^^ BitVec.ofInt 64 (n : Int)).toNat : Int) = _
  have e1 : BitVec.ofInt 64 18446744073709551615 = BitVec.allOnes 64 := by decide
  rw [e1, BitVec.allOnes_xor, BitVec.toNat_not, ofInt_u64 n (by omega), IntKind.wrap_u64]
  omega
theorem zig_pos {i : Int} (h : 0 ≤ i) : i * 2 = (zig i : Int) := by unfold zig; rw [if_pos h]; omega
theorem zig_neg {i : Int} (h0 : -9223372036854775808 ≤ i) (h : i < 0) : bits .xor .u64 IntKind.u64.max (IntKind.u64.wrap (IntKind.u64.wrap i * 2)) = (zig i : Int) := by
  rw [IntKind.wrap_u64, IntKind.wrap_u64, not_max (by omega) (by omega)]
  unfold zig
  rw [if_neg (by omega)]
  omega

set_option maxHeartbeats 2000000 in
theorem appSig_any (B n : Nat) (i : Int) (h0 : -9223372036854775808 ≤ i) (h1 : i ≤ 9223372036854775807) (sv : Value) (xs : List Value) (w : World) (hown : w.ownsRow B 5 1 sv n xs) (hBw : B ≤ w.heap.size) (hlim : n + 10 ≤ 140737488355328) :
    Calls Tryd.prog 33 #[sv, .int .i64 i] w fun e w' => ∃ v', e = .returned v' ∧ w'.ownsRow B 5 1 v' (n + (enc (zig i)).length) (xs ++ bcs (enc (zig i))) ∧ Gw w w' sv v' := by
  have HC : Hid (Calls Tryd.prog 18 #[sv, .int .u64 (zig i)] w fun e w' => ∃ v', e = .returned v' ∧ w'.ownsRow B 5 1 v' (n + (enc (zig i)).length) (xs ++ bcs (enc (zig i))) ∧ Gw w w' sv v') := appNum_any B n (zig i) (zig_lt i h0 h1) sv xs w hown hBw hlim
  clear hlim
  by_cases hi : 0 ≤ i
  · go_enter Tryd.func33, Tryd.ntmps33
    go_wp2_with fail
    rw [zig_pos hi]
    refine HC.out.mono ?_
    rintro e w' ⟨v', rfl, k1, k2⟩
    go_wp2
    go_ret
    exact ⟨v', rfl, k1, k2⟩
  · go_enter Tryd.func33, Tryd.ntmps33
    go_wp2_with fail
    rw [zig_neg h0 (by omega)]
    refine HC.out.mono ?_
    rintro e w' ⟨v', rfl, k1, k2⟩
    go_wp2
    go_ret
    exact ⟨v', rfl, k1, k2⟩

/-- an event's bytes -/
def evb (t q : Nat) (s d k v : Int) : List Nat := enc t ++ (enc (zig s) ++ (enc q ++ (enc (zig d) ++ (enc (zig k) ++ enc (zig v)))))
end Go.Proofs.YtcifdlncbekohaaDoor
