/- What the specification's SignId answers. -/
import Derived.Test.YthjolannlefbcaaGreatDoorJn1
namespace Go.Proofs.YthjolannlefbcaaGreatDoor
open Go.RowKit Go.Maps Go.WideMaps

def signR (ss : List ByteArray) (gs : List (Int × Int)) (a b : Int) : LRes :=
  if flt ss gs ≠ 0 then ⟨flt ss gs, 0, [], []⟩ else if inB a 1 999 = false ∨ inB b 1 ss.length = false then ⟨3, 0, [], []⟩ else if memB gs (a, b) = true then ⟨0, b, ss, gs⟩ else if 120 ≤ gs.length then ⟨2, 0, [], []⟩ else ⟨0, b, ss, gs ++ [(a, b)]⟩

section
variable {ss : List ByteArray} {gs : List (Int × Int)} {a b : Int} {n m : Nat}
theorem signR_bad {c : Int} (h : c = flt ss gs) (h0 : c ≠ 0) : signR ss gs a b = ⟨c, 0, [], []⟩ := by unfold signR; rw [← h, if_pos h0]
theorem signR_range (hn : ss.length = n) (h : 0 = flt ss gs) (h1 : inB a 1 999 = false ∨ inB b 1 n = false) : signR ss gs a b = ⟨3, 0, [], []⟩ := by unfold signR; rw [← h, if_neg (by simp), hn, if_pos h1]
theorem signR_old (hn : ss.length = n) (h : 0 = flt ss gs) (h1 : inB a 1 999 = true) (h2 : inB b 1 n = true) (hk : true = memB gs (a, b)) : signR ss gs a b = ⟨0, b, ss, gs⟩ := by unfold signR; rw [← h, if_neg (by simp), hn, if_neg (by simp [h1, h2]), if_pos hk.symm]
theorem signR_full (hn : ss.length = n) (hm : gs.length = m) (h : 0 = flt ss gs) (h1 : inB a 1 999 = true) (h2 : inB b 1 n = true) (hk : false = memB gs (a, b)) (h120 : 120 ≤ m) : signR ss gs a b = ⟨2, 0, [], []⟩ := by unfold signR; rw [← h, if_neg (by simp), hn, if_neg (by simp [h1, h2]), if_neg (by simp [← hk]), hm, if_pos h120]
theorem signR_new (hn : ss.length = n) (hm : gs.length = m) (h : 0 = flt ss gs) (h1 : inB a 1 999 = true) (h2 : inB b 1 n = true) (hk : false = memB gs (a, b)) (h120 : ¬ 120 ≤ m) : signR ss gs a b = ⟨0, b, ss, gs ++ [(a, b)]⟩ := by unfold signR; rw [← h, if_neg (by simp), hn, if_neg (by simp [h1, h2]), if_neg (by simp [← hk]), hm, if_neg h120]
end

/-- What the append of a signature leaves. -/
theorem sg_new {w V w5 : World} {a0 a1 : Value} {n m g0 k0 g1 k1 g cap base K : Nat} {ss : List ByteArray} {gs : List (Int × Int)} {o : Obj} {zs : List Value}
    (HB : Box4 w V a0 a1 46) (HO : OwnL V base n m ss gs g0 k0 g1 k1) (HX : V.heap[K]? = some (.cells #[.slice (some ⟨g0, 0, none⟩) n k0, .slice (some ⟨g1, 0, none⟩) m k1] 46 (0, 0)))
    (ho : w5.ownsRow base 130 2 (.slice (some ⟨g, 0, none⟩) (m + 1) cap) (m + 1) zs) (hg : (V.alloc o).grownBy w5 (Value.ownBlock (.slice (some ⟨g1, 0, none⟩) m k1))) (h12 : w.heap.size + 1 < base) (h23 : base ≤ K) :
    w5.cell? ⟨K, 0, none⟩ = some (.slice (some ⟨g0, 0, none⟩) n k0) ∧ w5.cell? ⟨K, 1, none⟩ = some (.slice (some ⟨g1, 0, none⟩) m k1) ∧ w5.frozen? ⟨K, 1, none⟩ = false ∧
    (w5.setCell ⟨K, 1, none⟩ (.slice (some ⟨g, 0, none⟩) (m + 1) cap)).cell? ⟨K, 0, none⟩ = some (.slice (some ⟨g0, 0, none⟩) n k0) ∧
    (w5.setCell ⟨K, 1, none⟩ (.slice (some ⟨g, 0, none⟩) (m + 1) cap)).cell? ⟨K, 1, none⟩ = some (.slice (some ⟨g, 0, none⟩) (m + 1) cap) ∧
    Hid (Box4 w (w5.setCell ⟨K, 1, none⟩ (.slice (some ⟨g, 0, none⟩) (m + 1) cap)) a0 a1 46 ∧ (w5.setCell ⟨K, 1, none⟩ (.slice (some ⟨g, 0, none⟩) (m + 1) cap)).ownsRow base 9 1 (.slice (some ⟨g0, 0, none⟩) n k0) n (ss.map Value.string) ∧
      (w5.setCell ⟨K, 1, none⟩ (.slice (some ⟨g, 0, none⟩) (m + 1) cap)).ownsRow base 130 2 (.slice (some ⟨g, 0, none⟩) (m + 1) cap) (m + 1) zs) ∧
    (w5.setCell ⟨K, 1, none⟩ (.slice (some ⟨g, 0, none⟩) (m + 1) cap)).cell? ⟨w.heap.size + 1, 0, none⟩ = some (.int .i64 0) ∧ (w5.setCell ⟨K, 1, none⟩ (.slice (some ⟨g, 0, none⟩) (m + 1) cap)).cell? ⟨w.heap.size + 1, 1, none⟩ = some (.int .i64 0) ∧ (w5.setCell ⟨K, 1, none⟩ (.slice (some ⟨g, 0, none⟩) (m + 1) cap)).cell? ⟨w.heap.size + 1, 2, none⟩ = some (.slice none 0 0) ∧ (w5.setCell ⟨K, 1, none⟩ (.slice (some ⟨g, 0, none⟩) (m + 1) cap)).cell? ⟨w.heap.size + 1, 3, none⟩ = some (.slice none 0 0) ∧
    (w5.setCell ⟨K, 1, none⟩ (.slice (some ⟨g, 0, none⟩) (m + 1) cap)).frozen? ⟨w.heap.size + 1, 0, none⟩ = false ∧ (w5.setCell ⟨K, 1, none⟩ (.slice (some ⟨g, 0, none⟩) (m + 1) cap)).frozen? ⟨w.heap.size + 1, 1, none⟩ = false ∧ (w5.setCell ⟨K, 1, none⟩ (.slice (some ⟨g, 0, none⟩) (m + 1) cap)).frozen? ⟨w.heap.size + 1, 2, none⟩ = false ∧ (w5.setCell ⟨K, 1, none⟩ (.slice (some ⟨g, 0, none⟩) (m + 1) cap)).frozen? ⟨w.heap.size + 1, 3, none⟩ = false := by
  have hgX : ∃ cur, V.heap[g1]? = some (.cells cur 130 (0, 0)) := by
    rcases HO.2.2 with ⟨e, _⟩ | ⟨g', c', cur, e, _, hh, _⟩
    · cases e
    · simp at e
      obtain ⟨rfl, rfl⟩ := e
      exact ⟨cur, hh⟩
  obtain ⟨cur, hcur⟩ := hgX
  have kp : ∀ {b : Nat} {cs : Array Value} {t : TypeId}, V.heap[b]? = some (.cells cs t (0, 0)) → t ≠ 130 → w5.heap[b]? = some (.cells cs t (0, 0)) := by
    intro b cs t hb hne
    have hbl := lt_of_block hb
    have hbg : b ≠ g1 := by rintro rfl; rw [hb] at hcur; simp at hcur; exact hne hcur.2
    exact (hg.block b (by simp only [World.size_alloc]; omega) (by simpa [Value.ownBlock] using hbg)).trans ((Below.heap_alloc _ _ b hbl).trans hb)
  have hX5 := kp HX (by decide)
  have hR5 := kp HB.1 (by decide)
  have hA5 := kp HB.2.2 (by decide)
  have hne1 : w.heap.size + 1 ≠ K := by omega
  have hne0 : w.heap.size ≠ K := by omega
  have hB5 : Below w.heap.size w w5 := (HB.2.1.alloc HB.2.1.size _).grown hg (by have := HB.2.1.size; simp only [World.size_alloc] at this ⊢; omega) (fun j hj => by have := (HO.2.lt j hj).1; omega)
  have hX6 : (w5.setCell ⟨K, 1, none⟩ (.slice (some ⟨g, 0, none⟩) (m + 1) cap)).heap[K]? = some (.cells #[.slice (some ⟨g0, 0, none⟩) n k0, .slice (some ⟨g, 0, none⟩) (m + 1) cap] 46 (0, 0)) := by
    have := Joins.block_setCell (i := 1) hX5 (.slice (some ⟨g, 0, none⟩) (m + 1) cap)
    simpa using this
  have hR6 := (Below.heap_setCell w5 ⟨K, 1, none⟩ (.slice (some ⟨g, 0, none⟩) (m + 1) cap) (w.heap.size + 1) hne1).trans hR5
  have hA6 := (Below.heap_setCell w5 ⟨K, 1, none⟩ (.slice (some ⟨g, 0, none⟩) (m + 1) cap) w.heap.size hne0).trans hA5
  have hgr := keep_row (X := g1) hg ((Below.heap_alloc _ _ g1 (lt_of_block hcur)).trans hcur) (HO.1.alloc _) (by decide)
  refine ⟨(cells2 hX5).1, (cells2 hX5).2, Joins.unfrozen_of_block hX5 1, (cells2 hX6).1, (cells2 hX6).2, ⟨⟨hR6, hB5.setCell (p := ⟨K, 1, none⟩) (show w.heap.size ≤ K by omega) _, hA6⟩, row_set_other hgr hX5 (by decide) _, row_set_other ho hX5 (by decide) _⟩, cells4 hR6⟩

/-- What lies behind the copy and the signature's box. -/
structure Sx (w V : World) (a0 a1 : Value) (base K X n m : Nat) (ss : List ByteArray) (gs : List (Int × Int)) (g0 k0 g1 k1 : Nat) (a b : Int) : Prop where
  r : Box4 w V a0 a1 46
  o : OwnL V base n m ss gs g0 k0 g1 k1
  k : V.heap[K]? = some (.cells #[.slice (some ⟨g0, 0, none⟩) n k0, .slice (some ⟨g1, 0, none⟩) m k1] 46 (0, 0))
  x : V.heap[X]? = some (.cells #[.int .i64 a, .int .i64 b] 130 (0, 0))

theorem Sx.step {w V V' : World} {a0 a1 : Value} {base K X n m : Nat} {ss : List ByteArray} {gs : List (Int × Int)} {g0 k0 g1 k1 : Nat} {a b : Int} (h : Sx w V a0 a1 base K X n m ss gs g0 k0 g1 k1 a b) (hb : Below V.heap.size V V') : Sx w V' a0 a1 base K X n m ss gs g0 k0 g1 k1 a b :=
  ⟨(h.r.step hb).out, h.o.below hb, (keepb h.k hb).out, (keepb h.x hb).out⟩

theorem Sx.start {w w2 w3 : World} {a0 a1 : Value} {n m : Nat} {ss : List ByteArray} {gs : List (Int × Int)} {g0 k0 g1 k1 : Nat} {a b : Int} (h : Box4 w w2 a0 a1 46) (ho : OwnL w3 w2.heap.size n m ss gs g0 k0 g1 k1) (hb : Below w2.heap.size w2 w3) :
    Sx w ((w3.alloc (.cells #[.slice (some ⟨g0, 0, none⟩) n k0, .slice (some ⟨g1, 0, none⟩) m k1] 46)).alloc (.cells #[.int .i64 a, .int .i64 b] 130)) a0 a1 w2.heap.size w3.heap.size (w3.heap.size + 1) n m ss gs g0 k0 g1 k1 a b :=
  ⟨((h.step hb).out.step (below_box2 _ _)).out, ho.below (below_box2 _ _), block_at2, heap_at _ _ _ (by simp)⟩

end Go.Proofs.YthjolannlefbcaaGreatDoor
