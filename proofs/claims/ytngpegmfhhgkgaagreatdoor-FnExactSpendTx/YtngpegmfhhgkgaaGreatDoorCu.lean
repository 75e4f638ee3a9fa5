/- The program's purse: a map from refs to coins, each with keys of its own. -/
import Derived.Test.YtngpegmfhhgkgaaGreatDoorCm
import Derived.Test.YtngpegmfhhgkgaaGreatDoorCnC
import Derived.Maps.OwnSet
import Derived.Maps.Range
namespace Go.Proofs.YtngpegmfhhgkgaaGreatDoor
open Go.RowKit Go.Maps Go.WideMaps

theorem kR : Keyed Tryz.prog 63 := Keyed.of_law (deep_law_laid Tryz.laidOut (m := 2) (by omega) (of_decide_eq_true (by kernel_rfl)) (by kernel_rfl) (by kernel_rfl))
theorem Tryz.cellsRf : Tryz.prog.cellsOf 63 = 2 := by kernel_rfl
theorem Tryz.cellsI64R : Tryz.prog.cellsOf 2 = 1 := by kernel_rfl
theorem Tryz.someTypesR : ∃ m, Tryz.prog.types.size = m + 1 := ⟨Tryz.prog.types.size - 1, by have : 0 < Tryz.prog.types.size := of_decide_eq_true (by kernel_rfl); omega⟩
theorem Tryz.cutRf : (Tryz.prog.cutTypes.any (·.2 == 63)) = false := by kernel_rfl
theorem Tryz.keyAtRf (m : Nat) : Tryz.prog.keyTypeAt (m + 2) 63 = true := by
  have h2 : Tryz.prog.keyTypeAt (m + 1) 2 = true := by unfold Program.keyTypeAt; rw [Tryz.underlying2]
  unfold Program.keyTypeAt
  rw [Tryz.underlying63]
  simp only [Tryz.cutRf, Tryz.stoodInHeld63]
  simp [h2]
theorem Tryz.keyRf : Tryz.prog.keyType 63 = true := by
  obtain ⟨m, hm⟩ := Tryz.someTypesR
  unfold Program.keyType
  rw [hm]
  exact Tryz.keyAtRf m
theorem Tryz.litI64R (m : Nat) {x : Int} (hx : (Lit.int .i64 x).wf = true) : Tryz.prog.keyLits (m + 1) 2 [.int .i64 x] = some [.int .i64 x] := by
  unfold Program.keyLits
  rw [Tryz.underlying2]
  simp [hx]
theorem Tryz.litsRf (m : Nat) {p q : Int} (hp : (Lit.int .i64 p).wf = true) (hq : (Lit.int .i64 q).wf = true) : Tryz.prog.keyLits (m + 2) 63 [.int .i64 p, .int .i64 q] = some [.int .i64 p, .int .i64 q] := by
  unfold Program.keyLits
  rw [Tryz.underlying63]
  simp [Tryz.cellsRf, Tryz.cellsI64R, Tryz.litI64R m hp, Tryz.litI64R m hq]
def encR (r : Int × Int) : Value := .agg #[.int .i64 r.1, .int .i64 r.2]
theorem encR_inj {a b : Int × Int} (h : encR a = encR b) : a = b := by
  simp [encR] at h
  exact Prod.ext h.1 h.2
theorem keyRf {r : Int × Int} (hp : (Lit.int .i64 r.1).wf = true) (hq : (Lit.int .i64 r.2).wf = true) : ∃ kl, keyOf Tryz.prog 63 (encR r) = some kl := by
  obtain ⟨m, hm⟩ := Tryz.someTypesR
  refine ⟨.string (keyBytes [.int .i64 r.1, .int .i64 r.2]), ?_⟩
  unfold encR
  have hf : (Value.agg #[.int .i64 r.1, .int .i64 r.2]).formed Tryz.prog 63 = true := by simp [Value.formed, Tryz.underlying63, Tryz.cellsRf]
  unfold keyOf
  rw [Tryz.underlying63]
  simp only [Tryz.keyRf, hf, hm, Bool.and_self, if_true]
  have hc : (Value.agg #[.int .i64 r.1, .int .i64 r.2]).cells.toList = [.int .i64 r.1, .int .i64 r.2] := rfl
  rw [hc, Tryz.litsRf m hp hq]
  rfl

set_option maxRecDepth 20000 in
theorem Tryz.litI64R_inv {m : Nat} {c : Value} {l : List Lit} (h : Tryz.prog.keyLits (m + 1) 2 [c] = some l) : ∃ x, c = .int .i64 x ∧ (Lit.int .i64 x).wf = true := by
  unfold Program.keyLits at h
  rw [Tryz.underlying2] at h
  cases c <;> simp at h
  rename_i k n
  obtain ⟨⟨rfl, hw⟩, _⟩ := h
  exact ⟨n, rfl, hw⟩
set_option maxRecDepth 20000 in
theorem keyRf_inv {key : Value} {kl : Lit} (h : keyOf Tryz.prog 63 key = some kl) : ∃ r : Int × Int, key = encR r ∧ (Lit.int .i64 r.1).wf = true ∧ (Lit.int .i64 r.2).wf = true := by
  obtain ⟨m, hm⟩ := Tryz.someTypesR
  unfold keyOf at h
  rw [Tryz.underlying63] at h
  simp only at h
  split at h
  · rename_i hc
    have hf : key.formed Tryz.prog 63 = true := by simpa [Tryz.keyRf] using hc
    cases key <;> simp [Value.formed, Tryz.underlying63, Tryz.cellsRf] at hf
    rename_i cs
    obtain ⟨cs⟩ := cs
    match cs, hf with
    | [c0, c1], _ =>
      have hcl : (Value.agg ⟨[c0, c1]⟩).cells.toList = [c0, c1] := rfl
      rw [hcl, hm] at h
      unfold Program.keyLits at h
      rw [Tryz.underlying63] at h
      simp [Tryz.cellsRf, Tryz.cellsI64R] at h
      cases h0 : Tryz.prog.keyLits (m + 1) 2 [c0] with
      | none => rw [h0] at h; simp at h
      | some l0 =>
        cases h1 : Tryz.prog.keyLits (m + 1) 2 [c1] with
        | none => rw [h0, h1] at h; simp at h
        | some l1 =>
          obtain ⟨x0, rfl, w0⟩ := Tryz.litI64R_inv h0
          obtain ⟨x1, rfl, w1⟩ := Tryz.litI64R_inv h1
          exact ⟨(x0, x1), rfl, w0, w1⟩
  · cases h

/-- A coin as the map holds it. -/
def coV (x : Co × Value) : Value := .agg #[.int .i64 x.1.p, .int .i64 x.1.q, .int .i64 x.1.v, x.2, .int .i64 x.1.x, .int .i64 x.1.y, .int .i64 x.1.h, .bool x.1.m]
def zeroC : Value := .agg #[.int .i64 0, .int .i64 0, .int .i64 0, .slice none 0 0, .int .i64 0, .int .i64 0, .int .i64 0, .bool false]
theorem zeroC_any (w : World) : (zeroValue 68).run Tryz.prog w = .ok zeroC w := by kernel_rfl
def Rv (v : Value) : Option (DataW Value × List MemPlace) := some (.held v, [])
def refOf (x : Co × Value) : Int × Int := (x.1.p, x.1.q)
def findP (ps : List (Co × Value)) (r : Int × Int) : Option (Co × Value) := ps.find? fun x => decide (refOf x = r)
def LookD (D : DataW Value) (kl : Lit) : Option (Co × Value) → Prop
  | none => Maps.has D kl = false ∧ ∀ zd, D.atKey kl zd = zd
  | some x => Maps.has D kl = true ∧ ∀ zd, D.atKey kl zd = .held (coV x)

/-- The purse in block B: what it tells of each ref; the keys lie in blocks from lo on, no two in one. -/
structure Pu (w : World) (lo B : Nat) (ps : List (Co × Value)) : Prop where
  map : ∃ D : DataW Value, w.ownsMap Tryz.prog 63 Rv B ps.length D ∧ Maps.size D = ps.length ∧ ∀ r kl, keyOf Tryz.prog 63 (encR r) = some kl → LookD D kl (findP ps r)
  rows : ∀ x ∈ ps, w.ownsRow lo 2 1 x.2 x.1.l.length (ints x.1.l)
  base : lo ≤ B
  apart : ps.Pairwise fun x y => ∀ b, x.2.ownBlock = some b → y.2.ownBlock ≠ some b
  refs : ps.Pairwise fun x y => refOf x ≠ refOf y
  wfs : ∀ x ∈ ps, (Lit.int .i64 x.1.p).wf = true ∧ (Lit.int .i64 x.1.q).wf = true

theorem ownsMap_tight {w : World} {k : TypeId} {R : Value → Option (DataW Value × List MemPlace)} {b n : Nat} {D : DataW Value} (h : w.ownsMap Tryz.prog k R b n D) : w.ownsMap Tryz.prog k R b (Maps.size D) D := by
  obtain ⟨es, clock, hb, F, _, rfl⟩ := h
  exact ⟨es, clock, hb, F, by simp [Maps.size, length_sorted], rfl⟩
theorem Pu.lt {w : World} {lo B : Nat} {ps : List (Co × Value)} (h : Pu w lo B ps) : B < w.heap.size := by obtain ⟨D, ho, _⟩ := h.map; exact ho.lt
theorem Pu.made {w : World} {lo : Nat} (h : lo ≤ w.heap.size) : Pu (w.alloc (.map #[] 0)) lo w.heap.size [] :=
  ⟨⟨.map [], World.ownsMap_made _ _ _ _, rfl, fun r kl _ => ⟨rfl, fun _ => rfl⟩⟩, fun x hx => (by cases hx), h, List.Pairwise.nil, List.Pairwise.nil, fun x hx => (by cases hx)⟩
theorem Pu.below {w w' : World} {lo B : Nat} {ps : List (Co × Value)} (h : Pu w lo B ps) (hb : Below w.heap.size w w') : Pu w' lo B ps := by
  obtain ⟨D, ho, hsz, hat⟩ := h.map
  exact ⟨⟨D, ho.kept (grown_of_below hb) (by simp), hsz, hat⟩, fun x hx => (h.rows x hx).kept (grown_of_below hb) (by cases Value.ownBlock x.2 <;> simp), h.base, h.apart, h.refs, h.wfs⟩
theorem Pu.len {w : World} {lo B : Nat} {ps : List (Co × Value)} (h : Pu w lo B ps) (ty : TypeId) : (Builtin.len_ #[73] ty #[.map (some B)]).run Tryz.prog w = .ok (.int .i64 (ps.length : Nat)) w := by
  obtain ⟨D, ho, hsz, _⟩ := h.map
  rw [← hsz]
  exact ho.len Tryz.underlying73 ty

theorem Pu.look {w : World} {lo B : Nat} {ps : List (Co × Value)} (h : Pu w lo B ps) {r : Int × Int} (hp : (Lit.int .i64 r.1).wf = true) (hq : (Lit.int .i64 r.2).wf = true) :
    (Instr.lookup 73 (.map (some B)) (encR r) true).run Tryz.prog w = .ok (.tuple #[((findP ps r).map coV).getD zeroC, .bool (findP ps r).isSome]) w := by
  obtain ⟨D, ho, _, hat⟩ := h.map
  obtain ⟨kl, hk⟩ := keyRf hp hq
  obtain ⟨v, pl, hrun, hv⟩ := ho.look_ok kR Tryz.underlying73 (zeroC_any w) (zd := .held zeroC) (zp := []) rfl hk
  have hl := hat r kl hk
  cases hf : findP ps r with
  | none =>
    rw [hf] at hl
    rw [hl.2] at hv
    have : v = zeroC := (show v = zeroC ∧ pl = [] by simpa [Rv] using hv).1
    rw [hrun, hl.1, this]; rfl
  | some x =>
    rw [hf] at hl
    rw [hl.2] at hv
    have : v = coV x := (show v = coV x ∧ pl = [] by simpa [Rv] using hv).1
    rw [hrun, hl.1, this]; rfl

theorem find_snoc {ps : List (Co × Value)} {x : Co × Value} {r : Int × Int} (h : findP ps (refOf x) = none) : findP (ps ++ [x]) r = if refOf x = r then some x else findP ps r := by
  unfold findP at *
  rw [List.find?_append]
  by_cases e : refOf x = r
  · rw [← e, h, if_pos rfl]; simp
  · rw [if_neg e]
    simp [e]

theorem Pu.store {w : World} {lo B : Nat} {ps : List (Co × Value)} (h : Pu w lo B ps) {x : Co × Value} (hp : (Lit.int .i64 x.1.p).wf = true) (hq : (Lit.int .i64 x.1.q).wf = true) (hn : findP ps (refOf x) = none) (hl : ps.length ≤ 1000)
    (hrow : w.ownsRow lo 2 1 x.2 x.1.l.length (ints x.1.l)) (hap : ∀ y ∈ ps, ∀ b, y.2.ownBlock = some b → x.2.ownBlock ≠ some b) :
    ∃ w', (Instr.mapUpdate 73 (.map (some B)) (encR (refOf x)) (coV x)).run Tryz.prog w = .ok () w' ∧ Pu w' lo B (ps ++ [x]) ∧ w.grownBy w' (some B) := by
  obtain ⟨D, ho, hsz, hat⟩ := h.map
  obtain ⟨kl, hk⟩ := keyRf (r := refOf x) hp hq
  have hno : Maps.has D kl = false := by have := hat (refOf x) kl hk; rw [hn] at this; exact this.1
  obtain ⟨w', hrun, ho', hg⟩ := ho.update kR Tryz.underlying73 (by unfold maxLen; omega) hk (d := .held (coV x)) (ps := []) rfl
  have nb : ∀ y : Co × Value, w.ownsRow lo 2 1 y.2 y.1.l.length (ints y.1.l) → y.2.ownBlock ≠ some B := fun y hy e => by
    obtain ⟨es, clock, hb, _⟩ := ho
    rcases hy.2 with ⟨e1, _⟩ | ⟨g, c, cur, e1, _, hh, _⟩
    · rw [e1] at e; cases e
    · rw [e1] at e
      have : g = B := by simpa [Value.ownBlock] using e
      rw [this, hb] at hh
      cases hh
  refine ⟨w', hrun, ⟨⟨_, by simpa using ho', by rw [size_put (ho.tidy kR), hno, hsz]; simp, fun r kl' hy => ?_⟩, fun y hy => ?_, h.base, ?_, ?_, fun y hy => ?_⟩, hg⟩
  · rw [find_snoc hn]
    by_cases e : refOf x = r
    · subst e
      rw [hk] at hy
      cases hy
      rw [if_pos rfl]
      exact ⟨has_put_same ho.isMap (kR.key hk) _, fun zd => atKey_put_same ho.isMap (kR.key hk) _ _⟩
    · rw [if_neg e]
      have hne : kl' ≠ kl := fun e2 => e (encR_inj (kR.inj (by rw [e2]; exact hk) hy)).symm.symm
      have hl2 := hat r kl' hy
      cases hf : findP ps r with
      | none =>
        rw [hf] at hl2
        exact ⟨(has_put_other hne _).trans hl2.1, fun zd => (atKey_put_other hne _ _).trans (hl2.2 zd)⟩
      | some y =>
        rw [hf] at hl2
        exact ⟨(has_put_other hne _).trans hl2.1, fun zd => (atKey_put_other hne _ _).trans (hl2.2 zd)⟩
  · rcases List.mem_append.1 hy with hy | hy
    · exact (h.rows y hy).kept hg (.inr (nb y (h.rows y hy)))
    · obtain rfl := List.mem_singleton.1 hy
      exact hrow.kept hg (.inr (nb y hrow))
  · rw [List.pairwise_append]
    refine ⟨h.apart, List.pairwise_singleton _ _, fun y hy z hz b hb => ?_⟩
    obtain rfl := List.mem_singleton.1 hz
    exact hap y hy b hb
  · rw [List.pairwise_append]
    refine ⟨h.refs, List.pairwise_singleton _ _, fun y hy z hz e => ?_⟩
    obtain rfl := List.mem_singleton.1 hz
    unfold findP at hn
    rw [List.find?_eq_none] at hn
    exact hn y hy (by simpa using e)
  · rcases List.mem_append.1 hy with hy | hy
    · exact h.wfs y hy
    · obtain rfl := List.mem_singleton.1 hy
      exact ⟨hp, hq⟩

end Go.Proofs.YtngpegmfhhgkgaaGreatDoor
