import Derived.Test.YtopggemomcoalaaGreatRows
import Derived.WalkKit
import Derived.ProofKit
import Derived.OpenShut
import Derived.Below
import Derived.Test.YtopggemomcoalaaGreatJM8
import Derived.Maps.AppendAt
import Derived.Deep.RegionLaw
namespace Go.Proofs.YtopggemomcoalaaGreat
open Go.ChangeShapes Go.WideShapes Go.ChangeAt Go.RowKit

theorem wrap_over (a b : Int) (h : 0 ≤ a) (h1 : a ≤ 18446744073709551615) (h2 : 0 ≤ b) (h3 : b ≤ 18446744073709551615) (c : ¬ a + b ≤ 18446744073709551615) : IntKind.u64.wrap (a + b) < a := by
  simp only [IntKind.wrap, IntKind.bits, IntKind.signed]
  simp
  omega

def addN (t d : Int) : Int := if t + d ≤ 18446744073709551615 then t + d else 0
def addE (t d : Int) : Int := if t + d ≤ 18446744073709551615 then 0 else 10

theorem add_any (t d : Int) (ht : 0 ≤ t ∧ t ≤ 18446744073709551615) (hd : 0 ≤ d ∧ d ≤ 18446744073709551615) (w : World) :
    Calls Tryz.prog 115 #[.int .u64 t, .int .u64 d] w fun e w' => e = .returned (.tuple #[.int .u64 (addN t d), .int .i64 (addE t d)]) ∧ w' = w := by
  by_cases c : t + d ≤ 18446744073709551615
  · have h1 : addN t d = t + d := by simp [addN, c]
    have h2 : addE t d = 0 := by simp [addE, c]
    rw [h1, h2]
    clear h1 h2
    go_enter Tryz.func115, Tryz.ntmps115
    go_wp2
    go_ret2
    exact ⟨rfl, rfl⟩
  · have h1 : addN t d = 0 := by simp [addN, c]
    have h2 : addE t d = 10 := by simp [addE, c]
    rw [h1, h2]
    clear h1 h2
    have hw := wrap_over t d ht.1 ht.2 hd.1 hd.2 c
    go_enter Tryz.func115, Tryz.ntmps115
    go_wp2
    go_ret2
    exact ⟨rfl, rfl⟩
end Go.Proofs.YtopggemomcoalaaGreat
namespace Go.Proofs.YtopggemomcoalaaGreat
open Go.ChangeShapes Go.WideShapes Go.ChangeAt Go.RowKit
set_option linter.unusedVariables false

theorem step_append_own {P : Program} {ops : Array Oper} {o : Oper} {a : Act} {w : World} {K : Act → World → Prop} {Q : Exit → Act → World → Prop} {E : Prop}
    (hg : o.guard = none) (s x : Operand) (t : TypeId) (hop : o.op = Op.call { callee := Callee.builtin Builtin.append, args := #[s, x], argTypes := #[t, t] })
    (base : Nat) (e : TypeId) (i : TypeInfo) (z : Value) (size bytes : Nat) (ht : P.underlying t = some (.slice e)) (hi : P.info? e = some i) (hz : i.zero = some z)
    (hsize : i.size = size) (hby : i.bytes = bytes) (hzs : z.cells.size = size) (hsz : 0 < size)
    (v : Value) (n : Nat) (xs : List Value) (hs : a.eval s = v) (hown : w.ownsRow base e size v n xs)
    (ad : Addr) (m c : Nat) (news : List Value) (hx : a.eval x = .slice (some ad) m c) (hl : news.length = m * size) (hnews : ∀ j u, news[j]? = some u → w.cell? (ad.add j) = some u) (h1 : ∀ u ∈ news, u.oneCell' = true)
    (h63 : n + m ≤ maxLen) (hbytes : (n + m) * bytes ≤ 140737488355328) (hbase : base ≤ w.heap.size)
    (hK : ∀ v' w', w'.ownsRow base e size v' (n + m) (xs ++ news) → w.grownBy w' v.ownBlock → (v'.ownBlock = v.ownBlock ∨ v'.ownBlock = some w.heap.size) → K (a.put o.dst v') w') :
    if Region.wanted o (yielded ops a.tmps) = true then Oper.wp P o a w K Q else E := by
  have hw : Region.wanted o (yielded ops a.tmps) = true := by simp [Region.wanted, hg]
  rw [if_pos hw]
  obtain ⟨v', w', hr, h2, h3, h4, h5⟩ := run_append_own_at (P := P) w base t o.type e i z size bytes ht hi hz hsize hby hzs hsz v n xs hown ad m c news hl hnews h1 h63 hbytes hbase
  unfold Oper.wp execOp
  simp only [hop, resolve, invoke, builtin, Sem.run_bind, Sem.run_pure, Result.andThen_ok, List.map_toArray, List.map_cons, List.map_nil, hs, hx, hr]
  exact hK _ _ h2 h3 h5
theorem cells6 {W : World} {b : Nat} {c0 c1 c2 c3 c4 c5 : Value} {t : TypeId} (h : W.heap[b]? = some (.cells #[c0, c1, c2, c3, c4, c5] t (0, 0))) : W.cell? ⟨b, 0, none⟩ = some c0 ∧ W.cell? ⟨b, 1, none⟩ = some c1 ∧ W.cell? ⟨b, 2, none⟩ = some c2 ∧ W.cell? ⟨b, 3, none⟩ = some c3 ∧ W.cell? ⟨b, 4, none⟩ = some c4 ∧ W.cell? ⟨b, 5, none⟩ = some c5 := by
  refine ⟨?_, ?_, ?_, ?_, ?_, ?_⟩
  all_goals (unfold World.cell?; rw [h]; rfl)
def u64of (d : Int) : Int := IntKind.u64.wrap d
theorem u64of_b (d : Int) : u64ok (u64of d) := by
  unfold u64of u64ok
  simp only [IntKind.wrap, IntKind.bits, IntKind.signed]
  simp
  omega
/-- the fault of a sending -/
def sendF (cl : Cl) (M : Mc) (D T : Int) : Int :=
  if T < 0 ∨ cl.parts ≤ T then 204 else if D < 0 ∨ u64of D < cl.look then 205 else if M.on = 16 then 207 else if addE cl.time (u64of D) ≠ 0 then 206 else 0
theorem own6 (w : World) (cl : Cl) (we : World) (h : w.alloc (.cells #[.int .u64 cl.time, .int .i64 cl.src, .int .u64 cl.seq, .int .i64 cl.dst, .int .i64 cl.kind, .int .i64 cl.data] 49) = we) : Below w.heap.size w we ∧ we.heap[w.heap.size]? = some (.cells #[.int .u64 cl.time, .int .i64 cl.src, .int .u64 cl.seq, .int .i64 cl.dst, .int .i64 cl.kind, .int .i64 cl.data] 49 (0, 0)) ∧ we.heap.size = w.heap.size + 1 := by
  subst h
  exact ⟨(Below.refl _ w).alloc (Nat.le_refl _) _, World.alloc_heap_new w _, World.size_alloc w _⟩
set_option maxRecDepth 100000 in
set_option maxHeartbeats 4000000 in
theorem send_bad (w0 w : World) (base mb nw : Nat) (C : Nat → Value) (M : Mc) (cl : Cl) (code : Value) (hC : CC C cl code) (kind : Int) (h : MW w0 w base mb nw C M) (hh : 3 ≤ M.hi) (h64 : M.hi ≤ 64) (ht : u64ok cl.time) (hne : sendF cl M (topM M) (topM (popM M)) ≠ 0) (hov : ∃ p c, M.ov = .slice p M.on c) :
    Calls Tryz.prog 103 #[.pointer (some ⟨mb, 0, none⟩), .int .i64 kind] w fun e w' => e = .returned (.int .i64 (sendF cl M (topM M) (topM (popM M)))) ∧ ∃ M2, MW w0 w' base mb nw C M2 ∧ M2.used = M.used := by
  have hh1 : 0 < (popM M).hi := by show 0 < M.hi - 1; omega
  have hh2 : (popM M).hi ≤ 64 := by show M.hi - 1 ≤ 64; omega
  have hh3 : 0 < (popM (popM M)).hi := by show 0 < M.hi - 1 - 1; omega
  have hh4 : (popM (popM M)).hi ≤ 64 := by show M.hi - 1 - 1 ≤ 64; omega
  have HP1 := popW w0 w base mb nw C M h (by omega) h64
  have hu := u64of_b (topM M)
  have HA := fun W => add_any cl.time (u64of (topM M)) ht hu W
  have hlt := h.box.lt.1
  generalize hD : topM M = D at *
  generalize hT : topM (popM M) = T at *
  generalize hX : topM (popM (popM M)) = X at *
  obtain ⟨vp, vc, hov⟩ := hov
  have eU : IntKind.u64.wrap D = u64of D := rfl
  by_cases c1 : T < 0
  · have hv : sendF cl M D T = 204 := by unfold sendF; rw [if_pos (.inl c1)]
    rw [hv]
    clear hv hne
    go_enter Tryz.func103, Tryz.ntmps103
    go_wp2_with (first | (go_at_call 79; (first | ((with_reducible refine HP1.mono ?_); rintro e w1 ⟨rfl, o1, m1⟩; have HP2 := popW w0 w1 base mb nw C (popM M) m1 hh1 hh2; rw [hT] at HP2; clear HP1) | ((with_reducible refine HP2.mono ?_); rintro e w2 ⟨rfl, o2, m2⟩; have HP3 := popW w0 w2 base mb nw C (popM (popM M)) m2 hh3 hh4; rw [hX] at HP3; clear HP2) | ((with_reducible refine HP3.mono ?_); rintro e w3 ⟨rfl, o3, m3⟩; clear HP3; have s1 := m3.fix (k := 1) (by decide) hC.time; have s2 := m3.fix (k := 2) (by decide) hC.src; have s3 := m3.fix (k := 3) (by decide) hC.seq; have s4 := m3.fix (k := 4) (by decide) hC.dst; have s5 := m3.fix (k := 5) (by decide) hC.kind; have s6 := m3.fix (k := 6) (by decide) hC.data; obtain ⟨we, hwe⟩ : ∃ we, w3.alloc (.cells #[.int .u64 cl.time, .int .i64 cl.src, .int .u64 cl.seq, .int .i64 cl.dst, .int .i64 cl.kind, .int .i64 cl.data] 49) = we := ⟨_, rfl⟩; obtain ⟨hbe, hbx, hse⟩ := own6 w3 cl we hwe; have me := m3.later hbe; have t11 := me.fix (k := 11) (by decide) hC.parts; have t10 := me.fix (k := 10) (by decide) hC.look; have t155 : we.cell? ⟨mb, 155, none⟩ = some (.slice vp M.on vc) := (me.box.cell 155 (by omega)).trans (congrArg some hov); have hsz3 : w3.heap.size = w.heap.size := (by rw [o3.size, o2.size, o1.size]); obtain ⟨x0, x1, x2, x3, x4, x5⟩ := cells6 hbx; have y0 := x0; rw [← hwe] at y0; have HWE : Hid (w3.alloc (.cells #[.int .u64 cl.time, .int .i64 cl.src, .int .u64 cl.seq, .int .i64 cl.dst, .int .i64 cl.kind, .int .i64 cl.data] 49) = we) := hwe; clear hwe))) | (go_at_call 115; rw [HWE.out]; (with_reducible refine (HA _).mono ?_); rintro e w4 ⟨rfl, rfl⟩))
    go_ret
    exact ⟨rfl, _, me, rfl⟩
  · by_cases c2 : cl.parts ≤ T
    · have hv : sendF cl M D T = 204 := by unfold sendF; rw [if_pos (.inr c2)]
      rw [hv]
      clear hv hne
      go_enter Tryz.func103, Tryz.ntmps103
      go_wp2_with (first | (go_at_call 79; (first | ((with_reducible refine HP1.mono ?_); rintro e w1 ⟨rfl, o1, m1⟩; have HP2 := popW w0 w1 base mb nw C (popM M) m1 hh1 hh2; rw [hT] at HP2; clear HP1) | ((with_reducible refine HP2.mono ?_); rintro e w2 ⟨rfl, o2, m2⟩; have HP3 := popW w0 w2 base mb nw C (popM (popM M)) m2 hh3 hh4; rw [hX] at HP3; clear HP2) | ((with_reducible refine HP3.mono ?_); rintro e w3 ⟨rfl, o3, m3⟩; clear HP3; have s1 := m3.fix (k := 1) (by decide) hC.time; have s2 := m3.fix (k := 2) (by decide) hC.src; have s3 := m3.fix (k := 3) (by decide) hC.seq; have s4 := m3.fix (k := 4) (by decide) hC.dst; have s5 := m3.fix (k := 5) (by decide) hC.kind; have s6 := m3.fix (k := 6) (by decide) hC.data; obtain ⟨we, hwe⟩ : ∃ we, w3.alloc (.cells #[.int .u64 cl.time, .int .i64 cl.src, .int .u64 cl.seq, .int .i64 cl.dst, .int .i64 cl.kind, .int .i64 cl.data] 49) = we := ⟨_, rfl⟩; obtain ⟨hbe, hbx, hse⟩ := own6 w3 cl we hwe; have me := m3.later hbe; have t11 := me.fix (k := 11) (by decide) hC.parts; have t10 := me.fix (k := 10) (by decide) hC.look; have t155 : we.cell? ⟨mb, 155, none⟩ = some (.slice vp M.on vc) := (me.box.cell 155 (by omega)).trans (congrArg some hov); have hsz3 : w3.heap.size = w.heap.size := (by rw [o3.size, o2.size, o1.size]); obtain ⟨x0, x1, x2, x3, x4, x5⟩ := cells6 hbx; have y0 := x0; rw [← hwe] at y0; have HWE : Hid (w3.alloc (.cells #[.int .u64 cl.time, .int .i64 cl.src, .int .u64 cl.seq, .int .i64 cl.dst, .int .i64 cl.kind, .int .i64 cl.data] 49) = we) := hwe; clear hwe))) | (go_at_call 115; rw [HWE.out]; (with_reducible refine (HA _).mono ?_); rintro e w4 ⟨rfl, rfl⟩))
      go_ret
      exact ⟨rfl, _, me, rfl⟩
    · by_cases c3 : D < 0
      · have hv : sendF cl M D T = 205 := by unfold sendF; rw [if_neg (by omega), if_pos (.inl c3)]
        rw [hv]
        clear hv hne
        go_enter Tryz.func103, Tryz.ntmps103
        go_wp2_with (first | (go_at_call 79; (first | ((with_reducible refine HP1.mono ?_); rintro e w1 ⟨rfl, o1, m1⟩; have HP2 := popW w0 w1 base mb nw C (popM M) m1 hh1 hh2; rw [hT] at HP2; clear HP1) | ((with_reducible refine HP2.mono ?_); rintro e w2 ⟨rfl, o2, m2⟩; have HP3 := popW w0 w2 base mb nw C (popM (popM M)) m2 hh3 hh4; rw [hX] at HP3; clear HP2) | ((with_reducible refine HP3.mono ?_); rintro e w3 ⟨rfl, o3, m3⟩; clear HP3; have s1 := m3.fix (k := 1) (by decide) hC.time; have s2 := m3.fix (k := 2) (by decide) hC.src; have s3 := m3.fix (k := 3) (by decide) hC.seq; have s4 := m3.fix (k := 4) (by decide) hC.dst; have s5 := m3.fix (k := 5) (by decide) hC.kind; have s6 := m3.fix (k := 6) (by decide) hC.data; obtain ⟨we, hwe⟩ : ∃ we, w3.alloc (.cells #[.int .u64 cl.time, .int .i64 cl.src, .int .u64 cl.seq, .int .i64 cl.dst, .int .i64 cl.kind, .int .i64 cl.data] 49) = we := ⟨_, rfl⟩; obtain ⟨hbe, hbx, hse⟩ := own6 w3 cl we hwe; have me := m3.later hbe; have t11 := me.fix (k := 11) (by decide) hC.parts; have t10 := me.fix (k := 10) (by decide) hC.look; have t155 : we.cell? ⟨mb, 155, none⟩ = some (.slice vp M.on vc) := (me.box.cell 155 (by omega)).trans (congrArg some hov); have hsz3 : w3.heap.size = w.heap.size := (by rw [o3.size, o2.size, o1.size]); obtain ⟨x0, x1, x2, x3, x4, x5⟩ := cells6 hbx; have y0 := x0; rw [← hwe] at y0; have HWE : Hid (w3.alloc (.cells #[.int .u64 cl.time, .int .i64 cl.src, .int .u64 cl.seq, .int .i64 cl.dst, .int .i64 cl.kind, .int .i64 cl.data] 49) = we) := hwe; clear hwe))) | (go_at_call 115; rw [HWE.out]; (with_reducible refine (HA _).mono ?_); rintro e w4 ⟨rfl, rfl⟩))
        go_ret
        exact ⟨rfl, _, me, rfl⟩
      · by_cases c4 : u64of D < cl.look
        · have hv : sendF cl M D T = 205 := by unfold sendF; rw [if_neg (by omega), if_pos (.inr c4)]
          rw [hv]
          clear hv hne
          go_enter Tryz.func103, Tryz.ntmps103
          go_wp2_with (first | (go_at_call 79; (first | ((with_reducible refine HP1.mono ?_); rintro e w1 ⟨rfl, o1, m1⟩; have HP2 := popW w0 w1 base mb nw C (popM M) m1 hh1 hh2; rw [hT] at HP2; clear HP1) | ((with_reducible refine HP2.mono ?_); rintro e w2 ⟨rfl, o2, m2⟩; have HP3 := popW w0 w2 base mb nw C (popM (popM M)) m2 hh3 hh4; rw [hX] at HP3; clear HP2) | ((with_reducible refine HP3.mono ?_); rintro e w3 ⟨rfl, o3, m3⟩; clear HP3; have s1 := m3.fix (k := 1) (by decide) hC.time; have s2 := m3.fix (k := 2) (by decide) hC.src; have s3 := m3.fix (k := 3) (by decide) hC.seq; have s4 := m3.fix (k := 4) (by decide) hC.dst; have s5 := m3.fix (k := 5) (by decide) hC.kind; have s6 := m3.fix (k := 6) (by decide) hC.data; obtain ⟨we, hwe⟩ : ∃ we, w3.alloc (.cells #[.int .u64 cl.time, .int .i64 cl.src, .int .u64 cl.seq, .int .i64 cl.dst, .int .i64 cl.kind, .int .i64 cl.data] 49) = we := ⟨_, rfl⟩; obtain ⟨hbe, hbx, hse⟩ := own6 w3 cl we hwe; have me := m3.later hbe; have t11 := me.fix (k := 11) (by decide) hC.parts; have t10 := me.fix (k := 10) (by decide) hC.look; have t155 : we.cell? ⟨mb, 155, none⟩ = some (.slice vp M.on vc) := (me.box.cell 155 (by omega)).trans (congrArg some hov); have hsz3 : w3.heap.size = w.heap.size := (by rw [o3.size, o2.size, o1.size]); obtain ⟨x0, x1, x2, x3, x4, x5⟩ := cells6 hbx; have y0 := x0; rw [← hwe] at y0; have HWE : Hid (w3.alloc (.cells #[.int .u64 cl.time, .int .i64 cl.src, .int .u64 cl.seq, .int .i64 cl.dst, .int .i64 cl.kind, .int .i64 cl.data] 49) = we) := hwe; clear hwe))) | (go_at_call 115; rw [HWE.out]; (with_reducible refine (HA _).mono ?_); rintro e w4 ⟨rfl, rfl⟩))
          go_ret
          exact ⟨rfl, _, me, rfl⟩
        · by_cases c5 : M.on = 16
          · have c5' : ((M.on : Int) == 16) = true := by simp; omega
            have hv : sendF cl M D T = 207 := by unfold sendF; rw [if_neg (by omega), if_neg (by omega), if_pos c5]
            rw [hv]
            clear hv hne
            go_enter Tryz.func103, Tryz.ntmps103
            go_wp2_with (first | (go_at_call 79; (first | ((with_reducible refine HP1.mono ?_); rintro e w1 ⟨rfl, o1, m1⟩; have HP2 := popW w0 w1 base mb nw C (popM M) m1 hh1 hh2; rw [hT] at HP2; clear HP1) | ((with_reducible refine HP2.mono ?_); rintro e w2 ⟨rfl, o2, m2⟩; have HP3 := popW w0 w2 base mb nw C (popM (popM M)) m2 hh3 hh4; rw [hX] at HP3; clear HP2) | ((with_reducible refine HP3.mono ?_); rintro e w3 ⟨rfl, o3, m3⟩; clear HP3; have s1 := m3.fix (k := 1) (by decide) hC.time; have s2 := m3.fix (k := 2) (by decide) hC.src; have s3 := m3.fix (k := 3) (by decide) hC.seq; have s4 := m3.fix (k := 4) (by decide) hC.dst; have s5 := m3.fix (k := 5) (by decide) hC.kind; have s6 := m3.fix (k := 6) (by decide) hC.data; obtain ⟨we, hwe⟩ : ∃ we, w3.alloc (.cells #[.int .u64 cl.time, .int .i64 cl.src, .int .u64 cl.seq, .int .i64 cl.dst, .int .i64 cl.kind, .int .i64 cl.data] 49) = we := ⟨_, rfl⟩; obtain ⟨hbe, hbx, hse⟩ := own6 w3 cl we hwe; have me := m3.later hbe; have t11 := me.fix (k := 11) (by decide) hC.parts; have t10 := me.fix (k := 10) (by decide) hC.look; have t155 : we.cell? ⟨mb, 155, none⟩ = some (.slice vp M.on vc) := (me.box.cell 155 (by omega)).trans (congrArg some hov); have hsz3 : w3.heap.size = w.heap.size := (by rw [o3.size, o2.size, o1.size]); obtain ⟨x0, x1, x2, x3, x4, x5⟩ := cells6 hbx; have y0 := x0; rw [← hwe] at y0; have HWE : Hid (w3.alloc (.cells #[.int .u64 cl.time, .int .i64 cl.src, .int .u64 cl.seq, .int .i64 cl.dst, .int .i64 cl.kind, .int .i64 cl.data] 49) = we) := hwe; clear hwe))) | (go_at_call 115; rw [HWE.out]; (with_reducible refine (HA _).mono ?_); rintro e w4 ⟨rfl, rfl⟩))
            go_ret
            exact ⟨rfl, _, me, rfl⟩
          · have c5' : ((M.on : Int) == 16) = false := by simp; omega
            by_cases c6 : addE cl.time (u64of D) = 0
            · exact absurd (by unfold sendF; rw [if_neg (by omega), if_neg (by omega), if_neg c5, if_neg (by simpa using c6)]) hne
            · have c6' : (addE cl.time (u64of D) == 0) = false := by simpa using c6
              have hv : sendF cl M D T = 206 := by unfold sendF; rw [if_neg (by omega), if_neg (by omega), if_neg c5, if_pos c6]
              rw [hv]
              clear hv hne
              go_enter Tryz.func103, Tryz.ntmps103
              go_wp2_with (first | (go_at_call 79; (first | ((with_reducible refine HP1.mono ?_); rintro e w1 ⟨rfl, o1, m1⟩; have HP2 := popW w0 w1 base mb nw C (popM M) m1 hh1 hh2; rw [hT] at HP2; clear HP1) | ((with_reducible refine HP2.mono ?_); rintro e w2 ⟨rfl, o2, m2⟩; have HP3 := popW w0 w2 base mb nw C (popM (popM M)) m2 hh3 hh4; rw [hX] at HP3; clear HP2) | ((with_reducible refine HP3.mono ?_); rintro e w3 ⟨rfl, o3, m3⟩; clear HP3; have s1 := m3.fix (k := 1) (by decide) hC.time; have s2 := m3.fix (k := 2) (by decide) hC.src; have s3 := m3.fix (k := 3) (by decide) hC.seq; have s4 := m3.fix (k := 4) (by decide) hC.dst; have s5 := m3.fix (k := 5) (by decide) hC.kind; have s6 := m3.fix (k := 6) (by decide) hC.data; obtain ⟨we, hwe⟩ : ∃ we, w3.alloc (.cells #[.int .u64 cl.time, .int .i64 cl.src, .int .u64 cl.seq, .int .i64 cl.dst, .int .i64 cl.kind, .int .i64 cl.data] 49) = we := ⟨_, rfl⟩; obtain ⟨hbe, hbx, hse⟩ := own6 w3 cl we hwe; have me := m3.later hbe; have t11 := me.fix (k := 11) (by decide) hC.parts; have t10 := me.fix (k := 10) (by decide) hC.look; have t155 : we.cell? ⟨mb, 155, none⟩ = some (.slice vp M.on vc) := (me.box.cell 155 (by omega)).trans (congrArg some hov); have hsz3 : w3.heap.size = w.heap.size := (by rw [o3.size, o2.size, o1.size]); obtain ⟨x0, x1, x2, x3, x4, x5⟩ := cells6 hbx; have y0 := x0; rw [← hwe] at y0; have HWE : Hid (w3.alloc (.cells #[.int .u64 cl.time, .int .i64 cl.src, .int .u64 cl.seq, .int .i64 cl.dst, .int .i64 cl.kind, .int .i64 cl.data] 49) = we) := hwe; clear hwe))) | (go_at_call 115; rw [HWE.out]; (with_reducible refine (HA _).mono ?_); rintro e w4 ⟨rfl, rfl⟩))
              go_ret
              exact ⟨rfl, _, me, rfl⟩
end Go.Proofs.YtopggemomcoalaaGreat
namespace Go.Proofs.YtopggemomcoalaaGreat
open Go.ChangeShapes Go.WideShapes Go.ChangeAt Go.RowKit
set_option linter.unusedVariables false

theorem MW.grow {w0 w W5 w6 : World} {base mb nw : Nat} {C : Nat → Value} {M : Mc} (h : MW w0 w base mb nw C M) (hb : Below w.heap.size w W5) (hg : W5.grownBy w6 M.ov.ownBlock) {v' : Value} {m' : Nat} {F' : Nat → Value} (ho : Own w6 base 49 6 v' m' F') (hat : v'.ownBlock = M.ov.ownBlock ∨ v'.ownBlock = some W5.heap.size) : MW w0 (w6.setCell ⟨mb, 155, none⟩ v') base mb nw C { M with ov := v', on := m', oF := F' } := by
  have h5 := h.later hb
  have hlt := h5.box.lt
  have hwb : ∀ k, M.wv.ownBlock = some k → k < W5.heap.size := fun k hk => by
    rcases h5.wr.form with ⟨h7, _⟩ | ⟨g, c, h7, h8, h9⟩
    · rw [h7] at hk; cases hk
    · rw [h7] at hk; cases hk; exact h9
  have hob : ∀ k, M.ov.ownBlock = some k → base ≤ k := fun k hk => by
    rcases h5.out.form with ⟨h7, _⟩ | ⟨g, c, h7, h8, h9⟩
    · rw [h7] at hk; cases hk
    · rw [h7] at hk; cases hk; exact h8
  have hmb : w6.heap[mb]? = W5.heap[mb]? := hg.block mb hlt.1 (fun e => h5.d2 e.symm)
  have n2 : v'.ownBlock ≠ some mb := by
    rcases hat with e | e
    · rw [e]; exact h5.d2
    · rw [e]; intro e'; injection e' with e'; omega
  have n3 : ∀ k, M.wv.ownBlock = some k → v'.ownBlock ≠ some k := fun k hk => by
    rcases hat with e | e
    · rw [e]; exact h5.d3 k hk
    · rw [e]; intro e'; injection e' with e'; have := hwb k hk; omega
  refine ⟨(h5.box.far hmb).setOv v', ?_, ho.far fun k hk => Below.heap_setCell _ _ _ _ (by rintro rfl; exact n2 hk), h5.d1, n2, n3, ?_⟩
  · refine (h5.wr.far (W' := w6) fun k hk => hg.block k (hwb k hk) (fun e => h5.d3 k hk e.symm)).far fun k hk => Below.heap_setCell _ _ _ _ (by rintro rfl; exact h5.d1 hk)
  · exact (h5.bel.grown hg (Nat.le_trans hlt.2 (Nat.le_of_lt hlt.1)) (fun r e => hob r e)).setCell (p := ⟨mb, 155, none⟩) hlt.2 _
theorem cells_new (w : World) (cs : List Value) (t : TypeId) : ∀ j u, cs[j]? = some u → (w.alloc (.cells cs.toArray t)).cell? ((⟨w.heap.size, 0, none⟩ : Addr).add j) = some u := by
  intro j u hj
  rw [addr_add0, Nat.zero_add]
  unfold World.cell?
  rw [World.alloc_heap_new]
  simpa using hj
theorem belowDA (w : World) (o : Obj) : Below w.heap.size w (w.drew.alloc o) := (show Below w.heap.size w w.drew from ⟨rfl, rfl, rfl, Nat.le_refl _, fun _ _ => rfl⟩).alloc (Nat.le_refl _) o
theorem infoEv6 : (Tryz.prog.info? 49).map (fun i => (i.zero, i.size, i.bytes)) = some (some (.agg #[.int .u64 0, .int .i64 0, .int .u64 0, .int .i64 0, .int .i64 0, .int .i64 0]), 6, 48) := by kernel_rfl
def sentEv (cl : Cl) (M : Mc) (kind D T X : Int) : List Value := [.int .u64 (addN cl.time (u64of D)), .int .i64 cl.dst, .int .u64 M.sent, .int .i64 T, .int .i64 kind, .int .i64 X]
def oApp (M : Mc) (l : List Value) : Nat → Value := fun j => if j < M.on * 6 then M.oF j else l.getD (j - M.on * 6) undef
set_option maxRecDepth 100000 in
set_option maxHeartbeats 4000000 in
theorem send_ok (w0 w : World) (base mb nw : Nat) (C : Nat → Value) (M : Mc) (cl : Cl) (code : Value) (hC : CC C cl code) (kind : Int) (h : MW w0 w base mb nw C M) (hh : 3 ≤ M.hi) (h64 : M.hi ≤ 64) (ht : u64ok cl.time) (hz : sendF cl M (topM M) (topM (popM M)) = 0) (hon : M.on ≤ 16) :
    Calls Tryz.prog 103 #[.pointer (some ⟨mb, 0, none⟩), .int .i64 kind] w fun e w' => e = .returned (.int .i64 0) ∧ ∃ ov', MW w0 w' base mb nw C { popM (popM (popM M)) with ov := ov', on := M.on + 1, oF := oApp M (sentEv cl M kind (topM M) (topM (popM M)) (topM (popM (popM M)))), sent := u64of (M.sent + 1) } := by
  have hh1 : 0 < (popM M).hi := by show 0 < M.hi - 1; omega
  have hh2 : (popM M).hi ≤ 64 := by show M.hi - 1 ≤ 64; omega
  have hh3 : 0 < (popM (popM M)).hi := by show 0 < M.hi - 1 - 1; omega
  have hh4 : (popM (popM M)).hi ≤ 64 := by show M.hi - 1 - 1 ≤ 64; omega
  have HP1 := popW w0 w base mb nw C M h (by omega) h64
  have hu := u64of_b (topM M)
  have HA := fun W => add_any cl.time (u64of (topM M)) ht hu W
  have hlt := h.box.lt.1
  generalize hD : topM M = D at *
  generalize hT : topM (popM M) = T at *
  generalize hX : topM (popM (popM M)) = X at *
  obtain ⟨i5, hi5, hz0, hz1, hz2⟩ := info_parts infoEv6
  have hov : ∃ p c, M.ov = .slice p M.on c := by
    rcases h.out.form with ⟨h1, h2⟩ | ⟨g, c, h1, _⟩
    · exact ⟨none, 0, by rw [h1, h2]⟩
    · exact ⟨_, _, h1⟩
  obtain ⟨vp, vc, hov⟩ := hov
  have eU : IntKind.u64.wrap D = u64of D := rfl
  have c1 : ¬ (T < 0 ∨ cl.parts ≤ T) := fun hc => by unfold sendF at hz; rw [if_pos hc] at hz; cases hz
  have c2 : ¬ (D < 0 ∨ u64of D < cl.look) := fun hc => by unfold sendF at hz; rw [if_neg c1, if_pos hc] at hz; cases hz
  have c5 : M.on ≠ 16 := fun hc => by unfold sendF at hz; rw [if_neg c1, if_neg c2, if_pos hc] at hz; cases hz
  have c6 : addE cl.time (u64of D) = 0 := by
    apply Classical.byContradiction
    intro hc
    unfold sendF at hz
    rw [if_neg c1, if_neg c2, if_neg c5, if_pos hc] at hz
    cases hz
  have d1 : ¬ (T < 0) := fun hc => c1 (.inl hc)
  have d2 : ¬ (cl.parts ≤ T) := fun hc => c1 (.inr hc)
  have d3 : ¬ (D < 0) := fun hc => c2 (.inl hc)
  have d4 : ¬ (u64of D < cl.look) := fun hc => c2 (.inr hc)
  have c5' : ((M.on : Int) == 16) = false := by simp; omega
  rw [c6] at HA
  clear c1 c2 c6 hz
  generalize hN : addN cl.time (u64of D) = N at *
  go_enter Tryz.func103, Tryz.ntmps103
  go_wp2_with (first | (go_at_call 79; (first | ((with_reducible refine HP1.mono ?_); rintro e w1 ⟨rfl, o1, m1⟩; have HP2 := popW w0 w1 base mb nw C (popM M) m1 hh1 hh2; rw [hT] at HP2; clear HP1) | ((with_reducible refine HP2.mono ?_); rintro e w2 ⟨rfl, o2, m2⟩; have HP3 := popW w0 w2 base mb nw C (popM (popM M)) m2 hh3 hh4; rw [hX] at HP3; clear HP2) | ((with_reducible refine HP3.mono ?_); rintro e w3 ⟨rfl, o3, m3⟩; clear HP3; have s1 := m3.fix (k := 1) (by decide) hC.time; have s2 := m3.fix (k := 2) (by decide) hC.src; have s3 := m3.fix (k := 3) (by decide) hC.seq; have s4 := m3.fix (k := 4) (by decide) hC.dst; have s5 := m3.fix (k := 5) (by decide) hC.kind; have s6 := m3.fix (k := 6) (by decide) hC.data; obtain ⟨we, hwe⟩ : ∃ we, w3.alloc (.cells #[.int .u64 cl.time, .int .i64 cl.src, .int .u64 cl.seq, .int .i64 cl.dst, .int .i64 cl.kind, .int .i64 cl.data] 49) = we := ⟨_, rfl⟩; obtain ⟨hbe, hbx, hse⟩ := own6 w3 cl we hwe; have me := m3.later hbe; have t11 := me.fix (k := 11) (by decide) hC.parts; have t10 := me.fix (k := 10) (by decide) hC.look; have t155 : we.cell? ⟨mb, 155, none⟩ = some (.slice vp M.on vc) := (me.box.cell 155 (by omega)).trans (congrArg some hov); have hsz3 : w3.heap.size = w.heap.size := (by rw [o3.size, o2.size, o1.size]); obtain ⟨x0, x1, x2, x3, x4, x5⟩ := cells6 hbx; have y0 := x0; rw [← hwe] at y0; have HWE : Hid (w3.alloc (.cells #[.int .u64 cl.time, .int .i64 cl.src, .int .u64 cl.seq, .int .i64 cl.dst, .int .i64 cl.kind, .int .i64 cl.data] 49) = we) := hwe; clear hwe))) | (go_at_call 115; rw [HWE.out]; (with_reducible refine (HA _).mono ?_); rintro e w4 ⟨rfl, rfl⟩))
  have t57 : w4.cell? ⟨mb, 57, none⟩ = some (.int .u64 M.sent) := me.box.cell 57 (by omega)
  try rw [hsz3] at hbx
  try rw [hsz3] at hse
  obtain ⟨z0, z1, z2, z3, z4, z5⟩ := cells6 hbx
  go_region_held3 (fun w' => w'.cell? ⟨w.heap.size, 3, none⟩ = some (.int .i64 cl.dst) ∧ w'.cell? ⟨mb, 57, none⟩ = some (.int .u64 M.sent)) (go_keep) (fail)
  generalize hwk : World.drew (World.alloc w4 _) = wk
  have hbk : Below w4.heap.size w4 wk := by rw [← hwk]; exact ((Below.refl _ w4).alloc (Nat.le_refl _) _).trans ⟨rfl, rfl, rfl, Nat.le_refl _, fun _ _ => rfl⟩
  have hkx : wk.heap[w.heap.size + 1]? = some (.cells #[.int .u64 N, .int .i64 cl.dst, .int .u64 M.sent] 47 (0, 0)) := by
    rw [← hwk, ← hse]
    exact World.alloc_heap_new w4 _
  have hsk : wk.heap.size = w.heap.size + 2 := by
    rw [← hwk]
    show (World.alloc w4 _).heap.size = _
    rw [World.size_alloc, hse]
  have mk := me.later hbk
  obtain ⟨k0, k1, k2⟩ := cells3 hkx
  have k155 : wk.cell? ⟨mb, 155, none⟩ = some (.slice vp M.on vc) := (mk.box.cell 155 (by omega)).trans (congrArg some hov)
  have HO : Hid (∀ W, Below wk.heap.size wk W → W.ownsRow base 49 6 (.slice vp M.on vc) M.on (cellsF M.oF (M.on * 6))) := fun W hW => by
    have := (mk.later hW).out
    have e : (popM (popM (popM M))).ov = Value.slice vp M.on vc := hov
    rw [e] at this
    exact this
  have p3 : base ≤ wk.heap.size := by have := mk.bel.size; have := mk.box.lt; omega
  have on16 : M.on ≤ 1000000 := by omega
  have p1 : M.on + 1 ≤ maxLen := by unfold maxLen; omega
  have p2 : (M.on + 1) * 48 ≤ 140737488355328 := by omega
  have hmk : mb < w.heap.size := hlt
  have hA6 : Hid (∀ j u, [Value.int .u64 N, .int .i64 cl.dst, .int .u64 M.sent, .int .i64 T, .int .i64 kind, .int .i64 X][j]? = some u → (wk.drew.alloc (.cells #[.int .u64 N, .int .i64 cl.dst, .int .u64 M.sent, .int .i64 T, .int .i64 kind, .int .i64 X] 49)).cell? ((⟨wk.heap.size, 0, none⟩ : Addr).add j) = some u) := cells_new wk.drew [.int .u64 N, .int .i64 cl.dst, .int .u64 M.sent, .int .i64 T, .int .i64 kind, .int .i64 X] 49
  clear hwk z0 z1 z2 z3 z4 z5 x0 x1 x2 x3 x4 x5 t57 t11 t10 t155 s1 s2 s3 s4 s5 s6 hbx y0 d1 d2 d3 d4
  have hnk : (Value.slice vp M.on vc).ownBlock ≠ some (w.heap.size + 1) := by
    rw [← hov]
    rcases h.out.form with ⟨h1, h2⟩ | ⟨g, c, h1, h2, h3⟩
    · rw [h1]; intro e; cases e
    · rw [h1]; intro e; have : g = w.heap.size + 1 := by simpa [Value.ownBlock] using e
      omega
  have hnm : (Value.slice vp M.on vc).ownBlock ≠ some mb := by rw [← hov]; exact h.d2
  have kB155 : (wk.alloc (.cells #[.int .u64 N, .int .i64 cl.dst, .int .u64 M.sent, .int .i64 T, .int .i64 kind, .int .i64 X] 49)).cell? ⟨mb, 155, none⟩ = some (.slice vp M.on vc) := (World.cell?_of_block (((Below.refl _ wk).alloc (Nat.le_refl _) _).block mb (by omega))).trans k155
  have kA155 : (wk.drew.alloc (.cells #[.int .u64 N, .int .i64 cl.dst, .int .u64 M.sent, .int .i64 T, .int .i64 kind, .int .i64 X] 49)).cell? ⟨mb, 155, none⟩ = some (.slice vp M.on vc) := (World.cell?_of_block ((belowDA wk _).block mb (by omega))).trans k155
  go_wp2
  go_region_law ((refine step_append_own rfl (.tmp 80) (.tmp 86) 56 rfl base 49 i5 _ 6 48 Tryz.underlying56 hi5 hz0 hz1 hz2 rfl (by decide) (.slice vp M.on vc) M.on _ (by simp [Act.eval]) (HO.out _ (belowDA wk _)) ⟨wk.heap.size, 0, none⟩ 1 1 [.int .u64 N, .int .i64 cl.dst, .int .u64 M.sent, .int .i64 T, .int .i64 kind, .int .i64 X] (by simp [Act.eval, hsk]) rfl hA6.out (by simp [Value.oneCell']) p1 p2 (by show base ≤ (World.alloc wk.drew _).heap.size; rw [World.size_alloc]; exact Nat.le_succ_of_le p3) ?_; intro v' w6 hown' hgrow hat; obtain ⟨g6, c6, rfl⟩ := ownsRow_succ hown'; have KP : w6.cell? ⟨w.heap.size + 1, 0, none⟩ = some (.int .u64 N) ∧ w6.cell? ⟨w.heap.size + 1, 1, none⟩ = some (.int .i64 cl.dst) ∧ w6.cell? ⟨w.heap.size + 1, 2, none⟩ = some (.int .u64 M.sent) := cells3 ((hgrow.block _ (by show w.heap.size + 1 < (World.alloc wk.drew _).heap.size; rw [World.size_alloc]; show _ < wk.heap.size + 1; omega) (fun e => hnk e.symm)).trans (((belowDA wk _).block _ (by omega)).trans hkx)); have hmb6 := (hgrow.block mb (by show mb < (World.alloc wk.drew _).heap.size; rw [World.size_alloc]; show _ < wk.heap.size + 1; omega) (fun e => hnm e.symm)).trans ((belowDA wk _).block mb (by omega)); have n155 : w6.cell? ⟨mb, 155, none⟩ = some (.slice vp M.on vc) := (World.cell?_of_block hmb6).trans k155; have nfz : w6.frozen? ⟨mb, 155, none⟩ = false := (mk.box.far hmb6).frozen 155; have KS : (w6.setCell ⟨mb, 155, none⟩ (.slice (some ⟨g6, 0, none⟩) (M.on + 1) c6)).cell? ⟨w.heap.size + 1, 0, none⟩ = some (.int .u64 N) ∧ (w6.setCell ⟨mb, 155, none⟩ (.slice (some ⟨g6, 0, none⟩) (M.on + 1) c6)).cell? ⟨w.heap.size + 1, 1, none⟩ = some (.int .i64 cl.dst) ∧ (w6.setCell ⟨mb, 155, none⟩ (.slice (some ⟨g6, 0, none⟩) (M.on + 1) c6)).cell? ⟨w.heap.size + 1, 2, none⟩ = some (.int .u64 M.sent) := cells3 ((Below.heap_setCell w6 ⟨mb, 155, none⟩ _ (w.heap.size + 1) (by show w.heap.size + 1 ≠ mb; omega)).trans ((hgrow.block _ (by show w.heap.size + 1 < (World.alloc wk.drew _).heap.size; rw [World.size_alloc]; show _ < wk.heap.size + 1; omega) (fun e => hnk e.symm)).trans (((belowDA wk _).block _ (by omega)).trans hkx)))))
  all_goals
    have hO6 : Own w6 base 49 6 (.slice (some ⟨g6, 0, none⟩) (M.on + 1) c6) (M.on + 1) (oApp M [.int .u64 N, .int .i64 cl.dst, .int .u64 M.sent, .int .i64 T, .int .i64 kind, .int .i64 X]) := by
      have e6 : [Value.int .u64 N, .int .i64 cl.dst, .int .u64 M.sent, .int .i64 T, .int .i64 kind, .int .i64 X] = cellsF (fun j => [Value.int .u64 N, .int .i64 cl.dst, .int .u64 M.sent, .int .i64 T, .int .i64 kind, .int .i64 X].getD j undef) 6 := rfl
      unfold Own
      rw [e6, cellsF_append, show M.on * 6 + 6 = (M.on + 1) * 6 by omega] at hown'
      exact hown'
    have mN := mk.grow (belowDA wk _) (hov ▸ hgrow) hO6 (by rw [show (popM (popM (popM M))).ov = Value.slice vp M.on vc from hov]; exact hat)
    have n57 : (w6.setCell ⟨mb, 155, none⟩ (.slice (some ⟨g6, 0, none⟩) (M.on + 1) c6)).cell? ⟨mb, 57, none⟩ = some (.int .u64 M.sent) := mN.box.cell 57 (by omega)
    have n57f := mN.box.frozen 57
    have eS : u64of (M.sent + 1) = IntKind.u64.wrap (M.sent + 1) := rfl
    go_wp2
    go_ret
    refine ⟨rfl, .slice (some ⟨g6, 0, none⟩) (M.on + 1) c6, ?_⟩
    have hfin := mN.only (Only.set mb _ 57 (.int .u64 (u64of (M.sent + 1)))) (mN.box.setSent (u64of (M.sent + 1))) rfl rfl rfl rfl rfl
    have hl6 : sentEv cl M kind D T X = [.int .u64 N, .int .i64 cl.dst, .int .u64 M.sent, .int .i64 T, .int .i64 kind, .int .i64 X] := by unfold sentEv; rw [hN]
    rw [hl6]
    exact hfin
end Go.Proofs.YtopggemomcoalaaGreat
