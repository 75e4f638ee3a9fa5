/- The program's purse: a map from refs to coins, each with keys of its own. -/
import Derived.Test.YtbjgngabdcknnaaCm
import Derived.Test.YtbjgngabdcknnaaCnC
import Derived.Maps.OwnSet
import Derived.Maps.Range
namespace Go.Proofs.Ytbjgngabdcknnaa
open Go.RowKit Go.Maps Go.WideMaps

theorem kR : Keyed Try.prog 31 := Keyed.of_law (deep_law_laid Try.laidOut (m := 2) (by omega) (of_decide_eq_true (by kernel_rfl)) (by kernel_rfl) (by kernel_rfl))
theorem Try.cellsRf : Try.prog.cellsOf 31 = 2 := by kernel_rfl
theorem Try.cellsI64R : Try.prog.cellsOf 2 = 1 := by kernel_rfl
theorem Try.someTypesR : ∃ m, Try.prog.types.size = m + 1 := ⟨Try.prog.types.size - 1, by have : 0 < Try.prog.types.size := of_decide_eq_true (by kernel_rfl); omega⟩
theorem Try.cutRf : (Try.prog.cutTypes.any (·.2 == 31)) = false := by kernel_rfl
theorem Try.keyAtRf (m : Nat) : Try.prog.keyTypeAt (m + 2) 31 = true := by
  have h2 : Try.prog.keyTypeAt (m + 1) 2 = true := by unfold Program.keyTypeAt; rw [Try.underlying2]
  unfold Program.keyTypeAt
  rw [Try.underlying31]
  simp only [Try.cutRf, Try.stoodInHeld31]
  simp [h2]
theorem Try.keyRf : Try.prog.keyType 31 = true := by
  obtain ⟨m, hm⟩ := Try.someTypesR
  unfold Program.keyType
  rw [hm]
  exact Try.keyAtRf m
theorem Try.litI64R (m : Nat) {x : Int} (hx : (Lit.int .i64 x).wf = true) : Try.prog.keyLits (m + 1) 2 [.int .i64 x] = some [.int .i64 x] := by
  unfold Program.keyLits
  rw [Try.underlying2]
  simp [hx]
theorem Try.litsRf (m : Nat) {p q : Int} (hp : (Lit.int .i64 p).wf = true) (hq : (Lit.int .i64 q).wf = true) : Try.prog.keyLits (m + 2) 31 [.int .i64 p, .int .i64 q] = some [.int .i64 p, .int .i64 q] := by
  unfold Program.keyLits
  rw [Try.underlying31]
  simp [Try.cellsRf, Try.cellsI64R, Try.litI64R m hp, Try.litI64R m hq]
def encR (r : Int × Int) : Value := .agg #[.int .i64 r.1, .int .i64 r.2]
theorem encR_inj {a b : Int × Int} (h : encR a = encR b) : a = b := by
  simp [encR] at h
  exact Prod.ext h.1 h.2
theorem keyRf {r : Int × Int} (hp : (Lit.int .i64 r.1).wf = true) (hq : (Lit.int .i64 r.2).wf = true) : ∃ kl, keyOf Try.prog 31 (encR r) = some kl := by
  obtain ⟨m, hm⟩ := Try.someTypesR
  refine ⟨.string (keyBytes [.int .i64 r.1, .int .i64 r.2]), ?_⟩
  unfold encR
  have hf : (Value.agg #[.int .i64 r.1, .int .i64 r.2]).formed Try.prog 31 = true := by simp [Value.formed, Try.underlying31, Try.cellsRf]
  unfold keyOf
  rw [Try.underlying31]
  simp only [Try.keyRf, hf, hm, Bool.and_self, if_true]
  have hc : (Value.agg #[.int .i64 r.1, .int .i64 r.2]).cells.toList = [.int .i64 r.1, .int .i64 r.2] := rfl
  rw [hc, Try.litsRf m hp hq]
  rfl

/-- A coin as the map holds it. -/
def coV (x : Co × Value) : Value := .agg #[.int .i64 x.1.p, .int .i64 x.1.q, .int .i64 x.1.v, x.2, .int .i64 x.1.x, .int .i64 x.1.y, .int .i64 x.1.h, .bool x.1.m]
def Rv (v : Value) : Option (DataW Value × List MemPlace) := some (.held v, [])
def refOf (x : Co × Value) : Int × Int := (x.1.p, x.1.q)
def findP (ps : List (Co × Value)) (r : Int × Int) : Option (Co × Value) := ps.find? fun x => decide (refOf x = r)
def LookD (D : DataW Value) (kl : Lit) : Option (Co × Value) → Prop
  | none => Maps.has D kl = false ∧ ∀ zd, D.atKey kl zd = zd
  | some x => Maps.has D kl = true ∧ ∀ zd, D.atKey kl zd = .held (coV x)

/-- The purse in block B: what it tells of each ref; the keys lie in blocks from lo on, no two in one. -/
structure Pu (w : World) (lo B : Nat) (ps : List (Co × Value)) : Prop where
  map : ∃ D : DataW Value, w.ownsMap Try.prog 31 Rv B ps.length D ∧ Maps.size D = ps.length ∧ ∀ r kl, keyOf Try.prog 31 (encR r) = some kl → LookD D kl (findP ps r)
  rows : ∀ x ∈ ps, w.ownsRow lo 2 1 x.2 x.1.l.length (ints x.1.l)
  base : lo ≤ B
  apart : ps.Pairwise fun x y => ∀ b, x.2.ownBlock = some b → y.2.ownBlock ≠ some b
  refs : ps.Pairwise fun x y => refOf x ≠ refOf y
  wfs : ∀ x ∈ ps, (Lit.int .i64 x.1.p).wf = true ∧ (Lit.int .i64 x.1.q).wf = true

theorem Pu.lt {w : World} {lo B : Nat} {ps : List (Co × Value)} (h : Pu w lo B ps) : B < w.heap.size := by obtain ⟨D, ho, _⟩ := h.map; exact ho.lt
theorem Pu.made {w : World} {lo : Nat} (h : lo ≤ w.heap.size) : Pu (w.alloc (.map #[] 0)) lo w.heap.size [] :=
  ⟨⟨.map [], World.ownsMap_made _ _ _ _, rfl, fun r kl _ => ⟨rfl, fun _ => rfl⟩⟩, fun x hx => (by cases hx), h, List.Pairwise.nil, List.Pairwise.nil, fun x hx => (by cases hx)⟩
theorem Pu.below {w w' : World} {lo B : Nat} {ps : List (Co × Value)} (h : Pu w lo B ps) (hb : Below w.heap.size w w') : Pu w' lo B ps := by
  obtain ⟨D, ho, hsz, hat⟩ := h.map
  exact ⟨⟨D, ho.kept (grown_of_below hb) (by simp), hsz, hat⟩, fun x hx => (h.rows x hx).kept (grown_of_below hb) (by cases Value.ownBlock x.2 <;> simp), h.base, h.apart, h.refs, h.wfs⟩
theorem find_snoc {ps : List (Co × Value)} {x : Co × Value} {r : Int × Int} (h : findP ps (refOf x) = none) : findP (ps ++ [x]) r = if refOf x = r then some x else findP ps r := by
  unfold findP at *
  rw [List.find?_append]
  by_cases e : refOf x = r
  · rw [← e, h, if_pos rfl]; simp
  · rw [if_neg e]
    simp [e]

theorem Pu.store {w : World} {lo B : Nat} {ps : List (Co × Value)} (h : Pu w lo B ps) {x : Co × Value} (hp : (Lit.int .i64 x.1.p).wf = true) (hq : (Lit.int .i64 x.1.q).wf = true) (hn : findP ps (refOf x) = none) (hl : ps.length ≤ 1000)
    (hrow : w.ownsRow lo 2 1 x.2 x.1.l.length (ints x.1.l)) (hap : ∀ y ∈ ps, ∀ b, y.2.ownBlock = some b → x.2.ownBlock ≠ some b) :
    ∃ w', (Instr.mapUpdate 83 (.map (some B)) (encR (refOf x)) (coV x)).run Try.prog w = .ok () w' ∧ Pu w' lo B (ps ++ [x]) ∧ w.grownBy w' (some B) := by
  obtain ⟨D, ho, hsz, hat⟩ := h.map
  obtain ⟨kl, hk⟩ := keyRf (r := refOf x) hp hq
  have hno : Maps.has D kl = false := by have := hat (refOf x) kl hk; rw [hn] at this; exact this.1
  obtain ⟨w', hrun, ho', hg⟩ := ho.update kR Try.underlying83 (by unfold maxLen; omega) hk (d := .held (coV x)) (ps := []) rfl
  have nb : ∀ y : Co × Value, w.ownsRow lo 2 1 y.2 y.1.l.length (ints y.1.l) → y.2.ownBlock ≠ some B := fun y hy e => by
    obtain ⟨es, clock, hb, _⟩ := ho
    rcases hy.2 with ⟨e1, _⟩ | ⟨g, c, cur, e1, _, hh, _⟩
    · rw [e1] at e; cases e
    · rw [e1] at e
      have : g = B := by simpa [Value.ownBlock] using e
      rw [this, hb] at hh
      cases hh
  refine ⟨w', hrun, ⟨⟨_, by simpa using ho', by rw [size_put (ho.tidy kR), hno, hsz]; simp, fun r kl' hy => ?_⟩, fun y hy => ?_, h.base, ?_, ?_, fun y hy => ?_⟩, hg⟩
  · rw [find_snoc hn]
    by_cases e : refOf x = r
    · subst e
      rw [hk] at hy
      cases hy
      rw [if_pos rfl]
      exact ⟨has_put_same ho.isMap (kR.key hk) _, fun zd => atKey_put_same ho.isMap (kR.key hk) _ _⟩
    · rw [if_neg e]
      have hne : kl' ≠ kl := fun e2 => e (encR_inj (kR.inj (by rw [e2]; exact hk) hy)).symm.symm
      have hl2 := hat r kl' hy
      cases hf : findP ps r with
      | none =>
        rw [hf] at hl2
        exact ⟨(has_put_other hne _).trans hl2.1, fun zd => (atKey_put_other hne _ _).trans (hl2.2 zd)⟩
      | some y =>
        rw [hf] at hl2
        exact ⟨(has_put_other hne _).trans hl2.1, fun zd => (atKey_put_other hne _ _).trans (hl2.2 zd)⟩
  · rcases List.mem_append.1 hy with hy | hy
    · exact (h.rows y hy).kept hg (.inr (nb y (h.rows y hy)))
    · obtain rfl := List.mem_singleton.1 hy
      exact hrow.kept hg (.inr (nb y hrow))
  · rw [List.pairwise_append]
    refine ⟨h.apart, List.pairwise_singleton _ _, fun y hy z hz b hb => ?_⟩
    obtain rfl := List.mem_singleton.1 hz
    exact hap y hy b hb
  · rw [List.pairwise_append]
    refine ⟨h.refs, List.pairwise_singleton _ _, fun y hy z hz e => ?_⟩
    obtain rfl := List.mem_singleton.1 hz
    unfold findP at hn
    rw [List.find?_eq_none] at hn
    exact hn y hy (by simpa using e)
  · rcases List.mem_append.1 hy with hy | hy
    · exact h.wfs y hy
    · obtain rfl := List.mem_singleton.1 hy
      exact ⟨hp, hq⟩

end Go.Proofs.Ytbjgngabdcknnaa
