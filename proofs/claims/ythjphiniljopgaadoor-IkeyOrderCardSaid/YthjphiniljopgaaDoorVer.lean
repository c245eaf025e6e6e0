/-
  Versions (api.Version) that came in as values: what a walk asks of them, out of how they read. No program is named.
-/
import Derived.Test.YthjphiniljopgaaDoorView2
namespace Go.Proofs.YthjphiniljopgaaDoor
open Go.RowKit Go.WideShapes Go.ChangeShapes Go.Deep

/-- A version as a value: key, vector, place, number, act. -/
def verV (key : ByteArray) (A : Option Addr) (n c : Nat) (o x kd : Int) (nu : Nat) (it : Int) (tx : ByteArray) : Value :=
  .agg #[.string key, .slice A n c, .int .i64 o, .int .i64 x, .int .i64 kd, .float .f64 nu, .int .i64 it, .string tx]

theorem array8 {α : Type} {cs : Array α} (h : cs.size = 8) : ∃ c0 c1 c2 c3 c4 c5 c6 c7, cs = #[c0, c1, c2, c3, c4, c5, c6, c7] := by
  obtain ⟨l⟩ := cs
  match l, h with
  | [c0, c1, c2, c3, c4, c5, c6, c7], _ => exact ⟨c0, c1, c2, c3, c4, c5, c6, c7, rfl⟩

/-- What is known of a version that came in. -/
structure VerIn (w : World) (key : ByteArray) (A : Option Addr) (n : Nat) (xs : List Int) (o x kd : Int) (nu : Nat) (it : Int) (tx : ByteArray) : Prop where
  ints : IntsIn w A n xs
  ks : key.size ≤ 9223372036854775807
  ow : (Lit.int .i64 o).wf = true
  xw : (Lit.int .i64 x).wf = true
  kw : (Lit.int .i64 kd).wf = true
  nw : (Lit.float .f64 nu).wf = true
  iw : (Lit.int .i64 it).wf = true
  ts : tx.size ≤ 9223372036854775807

theorem VerIn.below {w w' : World} {key : ByteArray} {A : Option Addr} {n : Nat} {xs : List Int} {o x kd : Int} {nu : Nat} {it : Int} {tx : ByteArray} (h : VerIn w key A n xs o x kd nu it tx) (hb : Below w.heap.size w w') : VerIn w' key A n xs o x kd nu it tx :=
  ⟨h.ints.below hb, h.ks, h.ow, h.xw, h.kw, h.nw, h.iw, h.ts⟩

section
variable {H : Type} {enc : TypeId × Value → H} {P : Program} {w : World} {t e tv ta : TypeId} {d : DataW H} {p : List MemPlace} {v : Value} {f0 f1 f2 f3 f4 g0 g1 g2 g3 : Field}
theorem ver_view {r : Reach} {b0 : Nat} (ht : P.underlying t = some (.struct #[f0, f1, f2, f3, f4])) (hct : P.cellsOf t = 8) (hta : P.underlying f4.type = some (.struct #[g0, g1, g2, g3]))
    (offs : [f0.offset, f1.offset, f2.offset, f3.offset, f4.offset, g0.offset, g1.offset, g2.offset, g3.offset] = [0, 1, 2, 3, 4, 0, 1, 2, 3])
    (cells : [f0.type, f1.type, f2.type, f3.type, f4.type, g0.type, g1.type, g2.type, g3.type].map P.cellsOf = [1, 1, 1, 1, 4, 1, 1, 1, 1]) (ce : P.cellsOf e = 1)
    (u0 : P.underlying f0.type = some .string) (u1 : P.underlying f1.type = some (.slice e)) (ue : P.underlying e = some (.int .i64)) (u2 : P.underlying f2.type = some (.int .i64)) (u3 : P.underlying f3.type = some (.int .i64))
    (k0 : P.underlying g0.type = some (.int .i64)) (k1 : P.underlying g1.type = some (.float .f64)) (k2 : P.underlying g2.type = some (.int .i64)) (k3 : P.underlying g3.type = some .string)
    (hval : Value.okWide P w r b0 t v) (h : DataW.Trod enc P w 0 (fun _ => true) true t v d p) :
    ∃ key A n c o x kd nu it tx xs, v = verV key A n c o x kd nu it tx ∧ VerIn w key A n xs o x kd nu it tx := by
  simp only [List.cons.injEq, and_true, List.map_cons, List.map_nil] at offs cells
  obtain ⟨o0, o1, o2, o3, o4, q0, q1, q2, q3⟩ := offs
  obtain ⟨c0, c1, c2, c3, c4, d0, d1, d2, d3⟩ := cells
  obtain ⟨cs, rfl, hsz⟩ := okWide_struct ht hval
  obtain ⟨a0, a1, a2, a3, a4, a5, a6, a7, rfl⟩ := array8 (hsz.trans hct)
  obtain ⟨fuel, hf⟩ := h
  obtain ⟨ys, m, _, _, _, hlen, hg⟩ := DataW.trod_struct ht hf
  match ys, hlen, hg with
  | [y0, y1, y2, y3, y4], _, hg =>
    have h0 := hg 0 f0 rfl
    have h1 := hg 1 f1 rfl
    have h2 := hg 2 f2 rfl
    have h3 := hg 3 f3 rfl
    have h4 := hg 4 f4 rfl
    simp [Value.cells, o0, o1, o2, o3, o4, c0, c1, c2, c3, c4] at h0 h1 h2 h3 h4
    obtain ⟨key, e0, _, s0⟩ := DataW.trod_string u0 h0
    obtain ⟨o, e2, _, w2⟩ := DataW.trod_int u2 h2
    obtain ⟨x, e3, _, w3⟩ := DataW.trod_int u3 h3
    obtain ⟨A, n, c, e1⟩ : ∃ A n c, a1 = .slice A n c := by
      rcases DataW.trod_slice u1 h1 with ⟨hs, _⟩ | ⟨a, len, cap, _, _, _, _, hs, _⟩
      · exact ⟨none, 0, 0, by simpa using hs⟩
      · exact ⟨some a, len, cap, by simpa using hs⟩
    simp at e0 e2 e3
    subst e0 e1 e2 e3
    obtain ⟨xs, hI⟩ := ints_view (d := y1.1) (p := y1.2) u1 ue ce ⟨m, by simpa [Value.cells] using h1⟩
    obtain ⟨zs, l, _, _, _, hlen2, hk⟩ := DataW.trod_struct hta h4
    match zs, hlen2, hk with
    | [z0, z1, z2, z3], _, hk =>
      have t0 := hk 0 g0 rfl
      have t1 := hk 1 g1 rfl
      have t2 := hk 2 g2 rfl
      have t3 := hk 3 g3 rfl
      simp [q0, q1, q2, q3, d0, d1, d2, d3] at t0 t1 t2 t3
      obtain ⟨kd, r0, _, v0⟩ := DataW.trod_int k0 t0
      obtain ⟨nu, r1, _, v1⟩ := trod_float_ k1 t1
      obtain ⟨it, r2, _, v2⟩ := DataW.trod_int k2 t2
      obtain ⟨tx, r3, _, v3⟩ := DataW.trod_string k3 t3
      simp at r0 r1 r2 r3
      subst r0 r1 r2 r3
      unfold maxLen at s0 v3
      exact ⟨key, A, n, c, o, x, kd, nu, it, tx, xs, rfl, hI, by omega, w2, w3, v0, v1, v2, by omega⟩
end
end Go.Proofs.YthjphiniljopgaaDoor
