/- The program's text of coins. -/
import Derived.Test.YtlcdhhaikhieiaaDoorOe
import Derived.Test.YtlcdhhaikhieiaaDoorX3
import Derived.Test.YtlcdhhaikhieiaaDoorX2
namespace Go.Proofs.YtlcdhhaikhieiaaDoor
open Go.RowKit Go.Shelf Go.Maps Go.WideMaps Go.Sort
attribute [local go_sem] Oper.semAt_some

theorem tail_nl (l : List Int) : (10 : UInt8) ∉ tailT l := by
  induction l with
  | nil => simp [tailT]
  | cons k t ih =>
    simp only [tailT, List.mem_cons, List.mem_append, not_or]
    exact ⟨by decide, not_dec (by decide) k, ih⟩
theorem rtx_nl (l : List Int) (x y : Int) : (10 : UInt8) ∉ rtxR l x y := by
  have h1 := not_dec (c := 10) (by decide) x
  have h2 : (10 : UInt8) ∉ keysT l := by
    cases l with
    | nil => simp [keysT]
    | cons k t =>
      simp only [keysT, List.mem_append, not_or]
      exact ⟨not_dec (by decide) k, tail_nl t⟩
  have h3 : (10 : UInt8) ∉ aftT y := by
    unfold aftT
    split
    · simp
    · simp only [List.mem_append, not_or]
      exact ⟨by decide, not_dec (by decide) y⟩
  unfold rtxR
  simp only [List.mem_append, not_or]
  exact ⟨⟨⟨h1, by decide⟩, h2⟩, h3⟩
theorem coinT_nl (c : Co) : (10 : UInt8) ∉ coinT c := by
  unfold coinT
  simp only [List.mem_append, List.mem_cons, not_or]
  exact ⟨⟨⟨⟨by decide, not_dec (by decide) _⟩, by decide, not_dec (by decide) _⟩, by decide, not_dec (by decide) _⟩, by decide, rtx_nl _ _ _⟩
theorem suffix_nl {t : List UInt8} (h : (10 : UInt8) ∉ t) : Lib.hasSuffix t [10] = false := by
  cases e : Lib.hasSuffix t [10]
  · rfl
  · exfalso
    apply h
    have := List.isSuffixOf_iff_suffix.1 e
    exact this.subset (List.mem_cons_self ..)

set_option maxHeartbeats 1000000 in
theorem writeRef_any (p q : Int) (w : World) (hp : 0 ≤ p ∧ p ≤ 999) (hq : 0 ≤ q ∧ q ≤ 999) (hT : Tb w) :
    Calls Tryd.prog 44 #[.agg #[.int .i64 p, .int .i64 q]] w fun e w' => e = .returned (.string (str (refT (p, q)))) ∧ Below w.heap.size w w' := by
  have hmix : Tryd.prog.follows .mixedOrders = true := by kernel_rfl
  obtain ⟨d1, hd1⟩ : ∃ z, z = dec p := ⟨_, rfl⟩
  obtain ⟨d2, hd2⟩ : ∃ z, z = dec q := ⟨_, rfl⟩
  have hl1 : d1.length ≤ 10 := by rw [hd1]; exact dec_len hp.2
  have hl2 : d2.length ≤ 10 := by rw [hd2]; exact dec_len hq.2
  obtain ⟨W, hW⟩ : ∃ W, W = w.alloc (.cells #[.int .i64 p, .int .i64 q] 42) := ⟨_, rfl⟩
  have hb1 : Below w.heap.size w W := by rw [hW]; exact below_box _
  have hh1 : W.heap[w.heap.size]? = some (.cells #[.int .i64 p, .int .i64 q] 42 (0, 0)) := by rw [hW]; exact heap_alloc_new _ _
  obtain ⟨c0, c1⟩ := cells2 hh1
  have z0 := cell_regrown c0
  have z1 := cell_regrown c1
  have A1 : ∀ dd os, Calls Tryd.prog 45 #[.int .i64 p] (grow (redrawn W dd) os) fun e w'' => e = .returned (.string (str d1)) ∧ ∃ p : Regrown, w'' = grow (redrawn W p.d) p.os := fun dd os => Calls.regrown_of (by rw [hd1]; exact writeNumber_any hp.1 hp.2 _ (hT.below (hb1.trans ((below_regrown W dd os).mono hb1.size)) (Nat.le_refl _)))
  have A2 : ∀ dd os, Calls Tryd.prog 45 #[.int .i64 q] (grow (redrawn W dd) os) fun e w'' => e = .returned (.string (str d2)) ∧ ∃ p : Regrown, w'' = grow (redrawn W p.d) p.os := fun dd os => Calls.regrown_of (by rw [hd2]; exact writeNumber_any hq.1 hq.2 _ (hT.below (hb1.trans ((below_regrown W dd os).mono hb1.size)) (Nat.le_refl _)))
  have hss : ∀ z : List UInt8, (str z).size = z.length := fun _ => rfl
  have happ : ∀ z r : List UInt8, str z ++ str r = str (z ++ r) := str_append
  have hc58 : ∀ z : List UInt8, str z ++ ⟨#[58]⟩ = str (z ++ [58]) := fun z => str_append z _
  have g1 : ¬ 9223372036854775807 < d1.length + 1 := by omega
  have g2 : ¬ 9223372036854775807 < d1.length + 1 + d2.length := by omega
  have HR : Hid (refT (p, q) = d1 ++ (58 :: d2)) := by show _ = _; rw [hd1, hd2]; rfl
  clear hd1 hd2 hp hq hT hh1 c0 c1
  rw [HR.out]
  go_enter Tryd.func44, Tryd.ntmps44
  go_wp2_with fail
  rw [← hW]
  clear hW
  refine wp_region_quiet_below hmix (by kernel_rfl) ?_
  repeat (go_big_quiet_step (first | (with_reducible exact A1 _ _) | (with_reducible exact A2 _ _)))
  refine wpQuiet_nil ?_
  intro V hw'
  have hbV : Below W.heap.size W V := by
    obtain ⟨⟨dz, osz⟩, hw''⟩ := hw'
    rw [hw'']; exact below_regrown W dz osz
  clear hw' A1 A2
  go_wp2
  go_ret
  exact ⟨by simp, hb1.trans (hbV.mono hb1.size)⟩

set_option maxHeartbeats 1000000 in
theorem endLine_add (t : List UInt8) (w : World) (hne : t ≠ []) (hnl : (10 : UInt8) ∉ t) (hl : t.length ≤ 1048576) :
    Calls Tryd.prog 23 #[.string (str t)] w fun e w' => e = .returned (.string (str (t ++ [10]))) ∧ w' = w := by
  have hS := Tryd.strings_HasSuffix (str t) ⟨#[10]⟩ w (by show t.toArray.size ≤ _; simp; omega)
  have et : (str t).data.toList = t := by simp [str]
  rw [et] at hS
  have hf : Lib.hasSuffix t (⟨#[10]⟩ : ByteArray).data.toList = false := suffix_nl hnl
  rw [hf] at hS
  have hee : ((str t).toList == []) = false := by rw [str_isE, decide_eq_false hne]
  have hss : ∀ z : List UInt8, (str z).size = z.length := fun _ => rfl
  have hc10 : ∀ z : List UInt8, str z ++ ⟨#[10]⟩ = str (z ++ [10]) := fun z => str_append z _
  have g1 : ¬ 9223372036854775807 < t.length + 1 := by omega
  clear et hf hne hnl
  go_enter Tryd.func23, Tryd.ntmps23
  go_wp2_with (first | (go_at_call 42; (with_reducible refine hS.mono ?_); clear hS; rintro e w2 ⟨rfl, hw2⟩; have hw3 := hw2.symm; subst hw3))
  go_ret
  exact ⟨rfl, rfl⟩

/-- The builder's contracts, at this translation. -/
def Bld (b : Nat) (l : List UInt8) (w : World) : Prop := Lib.IsBuilder 57 5 b b (Lib.byteCells l) w
theorem Bld.below {b : Nat} {l : List UInt8} {w w' : World} (h : Bld b l w) (hb : Below w.heap.size w w') : Bld b l w' := by
  have key : ∀ p, Lib.BuilderAt 57 5 b b p (Lib.byteCells l) w → Lib.BuilderAt 57 5 b b p (Lib.byteCells l) w' := fun p ⟨h1, v, h2, h3, h4⟩ =>
    ⟨h1, v, (hb.block b (lt_of_block h2)).trans h2, h3.kept (grown_of_below hb) (by cases Value.ownBlock v <;> simp), h4⟩
  exact h.elim (fun q => .inl (key _ q)) (fun q => .inr (key _ q))
theorem Bld.lt {b : Nat} {l : List UInt8} {w : World} (h : Bld b l w) : b < w.heap.size := h.elim (fun q => q.lt) (fun q => q.lt)
theorem Bld.fresh (w : World) : Bld w.heap.size [] (w.alloc (.cells #[.pointer none, .slice none 0 0] 57)) :=
  .inl ⟨Nat.le_refl _, _, heap_alloc_new _ _, World.ownsRow_nil _ _ _ _, by simp [Value.ownBlock]⟩
theorem bWrite_any (b : Nat) (l t : List UInt8) (w : World) (h : Bld b l w) (hlen : l.length + t.length ≤ 10000000) :
    Calls Tryd.prog 22 #[.pointer (some ⟨b, 0, none⟩), .string (str t)] w fun e w' => e = .returned (.tuple #[.int .i64 (t.length : Nat), .nilIface]) ∧ Bld b (l ++ t) w' ∧ Below b w w' := by
  have h1 : (str t).size = t.length := by show t.toArray.size = _; simp
  have := Any.Builder_WriteString (ρ := Tryd.lays156_ren) { Tryd.lays156 with } Tryd.Builder_Extra_156 b b (Lib.byteCells l) (str t) w h (by rw [h1, Lib.byteCells_length]; omega) (Nat.le_of_lt h.lt)
  rw [h1] at this
  refine this.mono fun e w' ⟨he, h2, h3⟩ => ⟨he, .inr ?_, h3⟩
  have e : Lib.byteCells (l ++ t) = Lib.byteCells l ++ Lib.strCells (str t) := by
    simp [Lib.byteCells, Lib.strCells, str]
  rw [e]
  exact h2
theorem bString_any (b : Nat) (l : List UInt8) (w : World) (h : Bld b l w) :
    Calls Tryd.prog 25 #[.pointer (some ⟨b, 0, none⟩)] w fun e w' => e = .returned (.string (str l)) ∧ Below b w w' :=
  Tryd.Builder_String_any b b l w h (Nat.le_of_lt h.lt)

end Go.Proofs.YtlcdhhaikhieiaaDoor
