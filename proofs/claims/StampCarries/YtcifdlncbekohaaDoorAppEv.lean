import Derived.Test.YtcifdlncbekohaaDoorEnc
namespace Go.Proofs.YtcifdlncbekohaaDoor
open Go.ChangeShapes Go.WideShapes Go.ChangeAt Go.RowKit

theorem boxG {w W : World} {sv v' : Value} {v0 v1 v2 v3 v4 v5 : Value} {T : TypeId} (hb : Gw (w.alloc (.cells #[v0, v1, v2, v3, v4, v5] T)) W sv v') (hne : sv.ownBlock ≠ some w.heap.size) :
    W.cell? ⟨w.heap.size, 0, none⟩ = some v0 ∧ W.cell? ⟨w.heap.size, 1, none⟩ = some v1 ∧ W.cell? ⟨w.heap.size, 2, none⟩ = some v2 ∧ W.cell? ⟨w.heap.size, 3, none⟩ = some v3 ∧ W.cell? ⟨w.heap.size, 4, none⟩ = some v4 ∧ W.cell? ⟨w.heap.size, 5, none⟩ = some v5 := by
  have h := (hb.grown.block w.heap.size (by simp) (fun e => hne e.symm)).trans (heap_alloc_new w _)
  refine ⟨?_, ?_, ?_, ?_, ?_, ?_⟩ <;> (unfold World.cell?; simp only [h]; rfl)
theorem Gw.new (w : World) (sv : Value) (o : Obj) : Gw w (w.alloc o) sv sv :=
  ⟨⟨rfl, rfl, rfl, by simp, fun k hk _ => Below.heap_alloc w o k hk⟩, fun _ h _ => h⟩

set_option maxHeartbeats 2000000 in
theorem appEv_any (B n t q : Nat) (s d k v : Int) (ht : t < 18446744073709551616) (hq : q < 18446744073709551616) (hs : -9223372036854775808 ≤ s ∧ s ≤ 9223372036854775807) (hd : -9223372036854775808 ≤ d ∧ d ≤ 9223372036854775807) (hk : -9223372036854775808 ≤ k ∧ k ≤ 9223372036854775807) (hv : -9223372036854775808 ≤ v ∧ v ≤ 9223372036854775807)
    (sv : Value) (xs : List Value) (w : World) (hown : w.ownsRow B 5 1 sv n xs) (hBw : B ≤ w.heap.size) (hlim : n + 60 ≤ 140737488355328) :
    Calls Tryd.prog 19 #[sv, .agg #[.int .u64 t, .int .i64 s, .int .u64 q, .int .i64 d, .int .i64 k, .int .i64 v]] w fun e w' => ∃ v', e = .returned v' ∧ w'.ownsRow B 5 1 v' (n + (evb t q s d k v).length) (xs ++ bcs (evb t q s d k v)) ∧ Gw w w' sv v' := by
  have HL : Hid (n + 60 ≤ 140737488355328) := hlim
  have HE : Hid (bcs (evb t q s d k v) = bcs (enc t) ++ (bcs (enc (zig s)) ++ (bcs (enc q) ++ (bcs (enc (zig d)) ++ (bcs (enc (zig k)) ++ bcs (enc (zig v)))))) ∧ (evb t q s d k v).length = (enc t).length + ((enc (zig s)).length + ((enc q).length + ((enc (zig d)).length + ((enc (zig k)).length + (enc (zig v)).length))))) := ⟨by simp only [evb, bcs_app], by simp only [evb, List.length_append]⟩
  clear hlim
  have l0 := enc_len10 t ht
  have l1 := enc_len10 (zig s) (zig_lt s hs.1 hs.2)
  have l2 := enc_len10 q hq
  have l3 := enc_len10 (zig d) (zig_lt d hd.1 hd.2)
  have l4 := enc_len10 (zig k) (zig_lt k hk.1 hk.2)
  have l5 := enc_len10 (zig v) (zig_lt v hv.1 hv.2)
  have hne : sv.ownBlock ≠ some w.heap.size := fun e => by have := (hown.lt _ e).2; omega
  have o : (w.alloc (.cells #[.int .u64 t, .int .i64 s, .int .u64 q, .int .i64 d, .int .i64 k, .int .i64 v] 36)).ownsRow B 5 1 sv n xs := hown.alloc _
  have hg : Gw (w.alloc (.cells #[.int .u64 t, .int .i64 s, .int .u64 q, .int .i64 d, .int .i64 k, .int .i64 v] 36)) (w.alloc (.cells #[.int .u64 t, .int .i64 s, .int .u64 q, .int .i64 d, .int .i64 k, .int .i64 v] 36)) sv sv := Gw.refl _ _
  have hz : B ≤ (w.alloc (.cells #[.int .u64 t, .int .i64 s, .int .u64 q, .int .i64 d, .int .i64 k, .int .i64 v] 36)).heap.size := by simp; omega
  have HN := Gw.new w sv (.cells #[.int .u64 t, .int .i64 s, .int .u64 q, .int .i64 d, .int .i64 k, .int .i64 v] 36)
  clear hown hBw
  obtain ⟨c0, c1, c2, c3, c4, c5⟩ := boxG hg hne
  go_enter Tryd.func19, Tryd.ntmps19
  go_wp2_with fail
  refine (appNum_any B _ t ht _ _ _ o hz (by have := HL.out; omega)).mono ?_
  rintro e w0 ⟨x0, rfl, o0, g0⟩
  replace hz := Nat.le_trans hz g0.grown.size
  replace hg := hg.trans g0
  clear o g0 c0 c1 c2 c3 c4 c5
  have o := o0
  clear o0
  obtain ⟨c0, c1, c2, c3, c4, c5⟩ := boxG hg hne
  go_wp2_with fail
  refine (appSig_any B _ s hs.1 hs.2 _ _ _ o hz (by have := HL.out; omega)).mono ?_
  rintro e w1 ⟨x1, rfl, o1, g1⟩
  replace hz := Nat.le_trans hz g1.grown.size
  replace hg := hg.trans g1
  clear o g1 c0 c1 c2 c3 c4 c5
  have o := o1
  clear o1
  obtain ⟨c0, c1, c2, c3, c4, c5⟩ := boxG hg hne
  go_wp2_with fail
  refine (appNum_any B _ q hq _ _ _ o hz (by have := HL.out; omega)).mono ?_
  rintro e w2 ⟨x2, rfl, o2, g2⟩
  replace hz := Nat.le_trans hz g2.grown.size
  replace hg := hg.trans g2
  clear o g2 c0 c1 c2 c3 c4 c5
  have o := o2
  clear o2
  obtain ⟨c0, c1, c2, c3, c4, c5⟩ := boxG hg hne
  go_wp2_with fail
  refine (appSig_any B _ d hd.1 hd.2 _ _ _ o hz (by have := HL.out; omega)).mono ?_
  rintro e w3 ⟨x3, rfl, o3, g3⟩
  replace hz := Nat.le_trans hz g3.grown.size
  replace hg := hg.trans g3
  clear o g3 c0 c1 c2 c3 c4 c5
  have o := o3
  clear o3
  obtain ⟨c0, c1, c2, c3, c4, c5⟩ := boxG hg hne
  go_wp2_with fail
  refine (appSig_any B _ k hk.1 hk.2 _ _ _ o hz (by have := HL.out; omega)).mono ?_
  rintro e w4 ⟨x4, rfl, o4, g4⟩
  replace hz := Nat.le_trans hz g4.grown.size
  replace hg := hg.trans g4
  clear o g4 c0 c1 c2 c3 c4 c5
  have o := o4
  clear o4
  obtain ⟨c0, c1, c2, c3, c4, c5⟩ := boxG hg hne
  go_wp2_with fail
  refine (appSig_any B _ v hv.1 hv.2 _ _ _ o hz (by have := HL.out; omega)).mono ?_
  rintro e w5 ⟨x5, rfl, o5, g5⟩
  replace hz := Nat.le_trans hz g5.grown.size
  replace hg := hg.trans g5
  clear o g5 c0 c1 c2 c3 c4 c5
  have o := o5
  clear o5
  go_wp2_with fail
  go_ret
  refine ⟨_, rfl, ?_, HN.trans hg⟩
  rw [HE.out.1, HE.out.2]
  simpa [Nat.add_assoc] using o

theorem evb_len {t q : Nat} {s d k v : Int} (ht : t < 18446744073709551616) (hq : q < 18446744073709551616) (hs : -9223372036854775808 ≤ s ∧ s ≤ 9223372036854775807) (hd : -9223372036854775808 ≤ d ∧ d ≤ 9223372036854775807) (hk : -9223372036854775808 ≤ k ∧ k ≤ 9223372036854775807) (hv : -9223372036854775808 ≤ v ∧ v ≤ 9223372036854775807) : (evb t q s d k v).length ≤ 60 := by
  have l0 := enc_len10 t ht
  have l1 := enc_len10 (zig s) (zig_lt s hs.1 hs.2)
  have l2 := enc_len10 q hq
  have l3 := enc_len10 (zig d) (zig_lt d hd.1 hd.2)
  have l4 := enc_len10 (zig k) (zig_lt k hk.1 hk.2)
  have l5 := enc_len10 (zig v) (zig_lt v hv.1 hv.2)
  simp [evb]
  omega

set_option maxHeartbeats 2000000 in
theorem pack_any (B t q : Nat) (s d k v : Int) (ht : t < 18446744073709551616) (hq : q < 18446744073709551616) (hs : -9223372036854775808 ≤ s ∧ s ≤ 9223372036854775807) (hd : -9223372036854775808 ≤ d ∧ d ≤ 9223372036854775807) (hk : -9223372036854775808 ≤ k ∧ k ≤ 9223372036854775807) (hv : -9223372036854775808 ≤ v ∧ v ≤ 9223372036854775807)
    (w : World) (hB : B ≤ w.heap.size) :
    Calls Tryd.prog 10 #[.agg #[.int .u64 t, .int .i64 s, .int .u64 q, .int .i64 d, .int .i64 k, .int .i64 v]] w fun e w' => ∃ v', e = .returned v' ∧ w'.ownsRow B 5 1 v' (evb t q s d k v).length (bcs (evb t q s d k v)) ∧ Below w.heap.size w w' ∧ ∀ j, v'.ownBlock = some j → w.heap.size ≤ j := by
  have HA : Hid (∀ W : World, B ≤ W.heap.size → Calls Tryd.prog 19 #[.slice none 0 0, .agg #[.int .u64 t, .int .i64 s, .int .u64 q, .int .i64 d, .int .i64 k, .int .i64 v]] W fun e w' => ∃ v', e = .returned v' ∧ w'.ownsRow B 5 1 v' (0 + (evb t q s d k v).length) ([] ++ bcs (evb t q s d k v)) ∧ Gw W w' (.slice none 0 0) v') := fun W hW => appEv_any B 0 t q s d k v ht hq hs hd hk hv (.slice none 0 0) [] W (World.ownsRow_nil _ _ _ _) hW (by decide)
  go_enter Tryd.func10, Tryd.ntmps10
  go_wp2_with fail
  refine (HA.out _ (by simp; omega)).mono ?_
  rintro e w' ⟨v', rfl, o, g⟩
  go_wp2
  go_ret
  refine ⟨v', rfl, by simpa using o, ((Below.refl _ _).alloc (Nat.le_refl _) _).trans (g.below (fun j hj => by cases hj) (by simp)), fun j hj => ?_⟩
  by_cases hlt : j < w.heap.size
  · have := g.own j hj (by simp; omega)
    cases this
  · omega

/-- an event's numbers -/
structure Ev where
  t : Nat
  q : Nat
  s : Int
  d : Int
  k : Int
  v : Int
def Ev.cells (e : Ev) : Array Value := #[.int .u64 e.t, .int .i64 e.s, .int .u64 e.q, .int .i64 e.d, .int .i64 e.k, .int .i64 e.v]
def Ev.bytes (e : Ev) : List Nat := evb e.t e.q e.s e.d e.k e.v
structure Ev.In (e : Ev) : Prop where
  t : e.t < 18446744073709551616
  q : e.q < 18446744073709551616
  s : -9223372036854775808 ≤ e.s ∧ e.s ≤ 9223372036854775807
  d : -9223372036854775808 ≤ e.d ∧ e.d ≤ 9223372036854775807
  k : -9223372036854775808 ≤ e.k ∧ e.k ≤ 9223372036854775807
  v : -9223372036854775808 ≤ e.v ∧ e.v ≤ 9223372036854775807
theorem Ev.In.len {e : Ev} (h : e.In) : e.bytes.length ≤ 60 := evb_len h.t h.q h.s h.d h.k h.v

/-- a row of events lies there -/
def EvsAt (w : World) (sl : Option Addr) (es : List Ev) : Prop :=
  (es.length = 0 ∨ ∃ b off, sl = some ⟨b, off, none⟩ ∧ b < w.heap.size ∧ ∀ i (h : i < es.length),
    w.cell? ⟨b, off + i * 6, none⟩ = some (.int .u64 es[i].t) ∧ w.cell? ⟨b, off + i * 6 + 1, none⟩ = some (.int .i64 es[i].s) ∧ w.cell? ⟨b, off + i * 6 + 2, none⟩ = some (.int .u64 es[i].q) ∧ w.cell? ⟨b, off + i * 6 + 3, none⟩ = some (.int .i64 es[i].d) ∧ w.cell? ⟨b, off + i * 6 + 4, none⟩ = some (.int .i64 es[i].k) ∧ w.cell? ⟨b, off + i * 6 + 5, none⟩ = some (.int .i64 es[i].v)) ∧ ∀ e ∈ es, e.In
theorem EvsAt.below {w w' : World} {sl : Option Addr} {es : List Ev} (h : EvsAt w sl es) (hb : Below w.heap.size w w') : EvsAt w' sl es := by
  refine ⟨?_, h.2⟩
  rcases h.1 with h | ⟨b, off, rfl, hlt, hc⟩
  · exact Or.inl h
  · refine Or.inr ⟨b, off, rfl, Nat.lt_of_lt_of_le hlt hb.size, fun i hi => ?_⟩
    have f : ∀ o, w'.cell? ⟨b, o, none⟩ = w.cell? ⟨b, o, none⟩ := fun o => World.cell?_of_block (hb.block b hlt)
    simp only [f]
    exact hc i hi
def evsB : List Ev → List Nat
  | [] => []
  | e :: r => e.bytes ++ evsB r
theorem evsB_app (a b : List Ev) : evsB (a ++ b) = evsB a ++ evsB b := by
  induction a with
  | nil => rfl
  | cons e r ih => simp [evsB, ih]
theorem evsB_len (es : List Ev) (h : ∀ e ∈ es, e.In) : (evsB es).length ≤ 60 * es.length := by
  induction es with
  | nil => simp [evsB]
  | cons e r ih =>
    have h1 := (h e (by simp)).len
    have h2 := ih (fun x hx => h x (by simp [hx]))
    simp [evsB]
    omega
end Go.Proofs.YtcifdlncbekohaaDoor
