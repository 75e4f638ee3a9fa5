/- Whatever bytes it is given, the law FnChecks returns true and leaves its argument as it was; what the seven listed variables read as is the row's condition, tied to the program's text by the given tie. -/
import Derived.Test.YtagokfoimokniaaGreatDoorLChecks
import Derived.Test.YtagokfoimokniaaGreatDoorOpY
import Derived.Test.YtagokfoimokniaaGreatDoorJf
import Derived.Test.YtagokfoimokniaaGreatDoorTie
import Derived.Test.YtagokfoimokniaaGreatDoorCards
import Derived.Carry
import Derived.Shelf.Vars
import Derived.Handed
import Derived.OpenShut
import Derived.ChangeSame
import Derived.ChangeVars
import Derived.JoinedOf
import Derived.RowKit
import Derived.RowKitTokens
import Derived.LaidLaws
import Derived.LaidHandle
import Derived.Lib.LaidTab
import Derived.Stop.LaidErr
import Derived.Stop.Joined
import Derived.SevenTiedAt
namespace Go.Proofs.YtagokfoimokniaaGreatDoor
open Go.ChangeShapes Go.WideShapes Go.ChangeAt Go.RowKit Go.Joins

/-- The settled world, the seven listed variables holding what their initialisers lay: the witness. -/
def ckCells (l : List Value) : Obj → Obj
  | .cells _ t frozen => .cells l.toArray t frozen
  | o => o
def ckNums (k : IntKind) (l : List Int) : List Value := l.map fun z => Value.int k z
noncomputable def ckWorld (os : Os) : World :=
  { World.holding Tryz.prog os ⟨#[], #[], []⟩ with heap := (World.holding Tryz.prog os ⟨#[], #[], []⟩).heap |>.modify 1 (ckCells ([.iface 224 (.agg #[.pointer (some ⟨8, 90, none⟩)])])) |>.modify 0 (ckCells ([.string (str [112, 97, 121]), .string (str [106, 111, 105, 110]), .string (str [108, 101, 97, 118, 101])])) |>.modify 4 (ckCells (ckNums .u8 (Go.Pinned.utf8FirstZ.map Int.ofNat))) |>.modify 5 (ckCells (ckNums .u8 [128, 191, 160, 191, 128, 159, 144, 191, 128, 143, 0, 0, 0, 0, 0, 0, 0, 0, 0, 0, 0, 0, 0, 0, 0, 0, 0, 0, 0, 0, 0, 0])) |>.modify 3 (ckCells (ckNums .u64 [1, 10, 100, 1000, 10000, 100000, 1000000, 10000000, 100000000, 1000000000, 10000000000, 100000000000, 1000000000000, 10000000000000, 100000000000000, 1000000000000000, 10000000000000000, 100000000000000000, 1000000000000000000, 10000000000000000000])) |>.modify 6 (ckCells (ckNums .u8 [0, 1, 28, 2, 29, 14, 24, 3, 30, 22, 20, 15, 25, 17, 4, 8, 31, 27, 13, 23, 21, 19, 16, 7, 26, 12, 18, 6, 11, 5, 10, 9])) |>.modify 7 (ckCells (ckNums .u8 [0, 1, 56, 2, 57, 49, 28, 3, 61, 58, 42, 50, 38, 29, 17, 4, 62, 47, 59, 36, 45, 43, 51, 22, 53, 39, 33, 30, 24, 18, 12, 5, 63, 55, 48, 27, 60, 41, 37, 16, 46, 35, 44, 21, 52, 32, 23, 11, 54, 26, 40, 15, 34, 20, 31, 10, 25, 14, 19, 9, 13, 8, 7, 6])) }
set_option maxRecDepth 100000 in
theorem ckWorld_met (os : Os) (args : Array Value) : laidMetH Tryz.prog Rows.fnChecksRow.laid ((ckWorld os).forCall (fun _ _ => 0) ⟨#[], args, []⟩).memory :=
  laidMetH_of_parts (laidMet_of_run' 8 (by kernel_rfl) (by kernel_rfl)) (by kernel_rfl)

set_option maxRecDepth 100000 in
theorem laid_parts {W : World} (h : laidMetH Tryz.prog Rows.fnChecksRow.laid W) : laidMet Tryz.prog [("math/bits.deBruijn32tab", Rows.laid_math_bits_deBruijn32tab), ("math/bits.deBruijn64tab", Rows.laid_math_bits_deBruijn64tab), ("internal/strconv.uint64pow10", Rows.laid_internal_strconv_uint64pow10), ("unicode/utf8.acceptRanges", Rows.laid_unicode_utf8_acceptRanges), ("loop.example/g00304/impl.kindNames", Rows.laid_loop_example_g00304_impl_kindNames), ("unicode/utf8.first", Rows.laid_unicode_utf8_first)] W ∧ handlesMet Tryz.prog [("errors.errorType", Rows.laid_errors_errorType)] W := h
theorem Tryz.etIs : Tryz.prog.globalNamed "errors.errorType" = some 1 := by kernel_rfl
theorem Tryz.rtIs : (Tryz.prog.cutTypes.find? (·.1 == "internal/reflectlite.rtype")).map (·.2) = some 224 := by kernel_rfl
theorem Tryz.oneRowIs : ((List.range 318).filter fun t => Tryz.prog.rowNamed t [101, 114, 114, 111, 114]) = [90] := by kernel_rfl
theorem Tryz.sizeIs : Tryz.prog.types.size = 318 := by kernel_rfl
/-- What the condition gives: the variable's one cell. -/
theorem handle_of_laid {W : World} (h : laidMetH Tryz.prog Rows.fnChecksRow.laid W) : W.cell? ⟨1, 0, none⟩ = some (.iface 224 (.agg #[.pointer (some ⟨8, 90, none⟩)])) := by
  obtain ⟨name, u, ty, e1, e2, e3, e4, e5⟩ := (laid_parts h).2 _ (List.mem_singleton.2 rfl)
  have en : name = [101, 114, 114, 111, 114] := (Option.some.inj e1).symm
  subst en
  obtain rfl := Option.some.inj (Tryz.rtIs.symm.trans e2)
  have hm : ty ∈ (List.range 318).filter fun t => Tryz.prog.rowNamed t [101, 114, 114, 111, 114] := List.mem_filter.2 ⟨List.mem_range.2 (by rw [← Tryz.sizeIs]; exact e3), e4⟩
  rw [Tryz.oneRowIs] at hm
  obtain rfl := List.mem_singleton.1 hm
  have hh : typeHandle Tryz.prog 90 = .pointer (some ⟨8, 90, none⟩) := by kernel_rfl
  rw [hh] at e5
  simpa using World.var?_cell Tryz.etIs e5 0
set_option maxRecDepth 100000 in
theorem Tb_of_laidC {W : World} (h : laidMetH Tryz.prog Rows.fnChecksRow.laid W) : Tb W := by
  have h' := (laid_parts h).1
  have h2 := laidMet.tail (laidMet.tail h')
  exact Lib.tabIs_of_head (g := 3) (t := 269) (e := 249) (n := 20) (by kernel_rfl) (by kernel_rfl) (by kernel_rfl) (by kernel_rfl) (by kernel_rfl) (by kernel_rfl) h2

set_option maxRecDepth 100000 in
theorem cells_of_namesC {H : Type} {enc : TypeId × Value → H} {W : World} {base : Nat} {sp : Nat → Bool} {held : Bool} {fuel : Nat} {cs : List Value} {a b c : List UInt8} {p : List MemPlace}
    (h : DataW.trod enc Tryz.prog W base sp held fuel 155 cs = some (.agg [.lit (.string a), .lit (.string b), .lit (.string c)], p)) : cs = [.string (str a), .string (str b), .string (str c)] := by
  have ht : Tryz.prog.underlying 155 = some (.array 3 9) := by kernel_rfl
  have hc : Tryz.prog.cellsOf 9 = 1 := by kernel_rfl
  have hc3 : Tryz.prog.cellsOf 155 = 3 := by kernel_rfl
  obtain ⟨xs, m, _, hx, hl, hxl, hel⟩ := DataW.trod_array ht h
  rw [hc3] at hl
  match xs, hxl, cs, hl with
  | [x0, x1, x2], _, [v0, v1, v2], _ =>
    have e0 := hel 0 (by omega)
    have e1 := hel 1 (by omega)
    have e2 := hel 2 (by omega)
    rw [hc] at e0 e1 e2
    simp at e0 e1 e2
    obtain ⟨s0, q0, r0, _⟩ := DataW.trod_string Tryz.underlying9 e0
    obtain ⟨s1, q1, r1, _⟩ := DataW.trod_string Tryz.underlying9 e1
    obtain ⟨s2, q2, r2, _⟩ := DataW.trod_string Tryz.underlying9 e2
    subst r0 r1 r2
    simp at q0 q1 q2 hx
    subst q0 q1 q2
    obtain ⟨⟨rfl, rfl, rfl⟩, _⟩ := hx
    simp [str]

set_option maxRecDepth 100000 in
theorem Ev_ofC {W : World} (h : laidMetH Tryz.prog Rows.fnChecksRow.laid W) (hs : W.ShapedOpen Tryz.prog) : Ev W := by
  refine ⟨Tb_of_laidC h, ?_, ?_⟩
  · have h' := (laid_parts h).1
    obtain ⟨ps, ⟨g', t', cs, fuel, p, q, hg', ht', hvar, hd, _, _⟩, _⟩ := laidMet.tail (laidMet.tail (laidMet.tail (laidMet.tail h')))
    obtain rfl : g' = 0 := Option.some.inj (hg'.symm.trans (show Tryz.prog.globalNamed "loop.example/g00304/impl.kindNames" = some 0 by kernel_rfl))
    obtain rfl : t' = 155 := Option.some.inj (ht'.symm.trans (show (Tryz.prog.globals[0]?).map (·.type) = some 155 by kernel_rfl))
    have e := cells_of_namesC hd
    rw [hvar]
    rw [show cs = cs.toList.toArray by simp, e]
  · exact cell_of_shapedOpen_int (g := 2) (t := 3) (zero := #[.int .i64 0]) hs (of_decide_eq_true (by kernel_rfl)) (by kernel_rfl) rfl (by kernel_rfl) (by kernel_rfl) Tryz.underlying3

set_option maxRecDepth 100000 in
theorem liftedChecks (os : Os) (started : os.Started) (H : Type) (enc : TypeId × Value → H) :
    ReturnsInHanded {} Tryz.checked os 3 .any (fun w args => (Rows.fnChecksSpec.pre enc Tryz.prog Tryz.f3 [] false w args ∧ laidMetH Tryz.prog Rows.fnChecksRow.laid w) ∧ sizedMet enc Tryz.prog Tryz.f3 (OpenSpec.ofChange Rows.fnChecksSpec) false w args)
      (Rows.fnChecksSpec.post enc Tryz.prog Tryz.f3 false true false false) := by
  refine returnsInHanded_of_calls (C := Tryz.checked) Tryz.own started (by kernel_rfl)
    (ChangeSpec.witness_at (enc := enc) (C := Tryz.checked) (os := os) (X := fun w _ => laidMetH Tryz.prog Rows.fnChecksRow.laid w) false (ckWorld os) #[.slice none 0 0] 8 rfl (by kernel_rfl) (by kernel_rfl) (by kernel_rfl) (by kernel_rfl) (by kernel_rfl) (ckWorld_met os _)) ?_
  intro w0 tape inp _ hsh _ hok hpre _
  obtain ⟨_, _, _, fn', hfn', _, _, _, _, hval0⟩ := hok
  obtain rfl : fn' = Tryz.f3 := Option.some.inj (hfn'.symm.trans Tryz.func3)
  obtain ⟨⟨⟨ds, gs, before, hw0, _⟩, hL0⟩, _⟩ := hpre
  obtain ⟨W, hWe⟩ : ∃ W, W = w0.forCall tape inp := ⟨_, rfl⟩
  have hW := DataW.Whole.of_heap (w' := w0.forCall tape inp) (by rfl) hw0
  have hL : laidMetH Tryz.prog Rows.fnChecksRow.laid (w0.forCall tape inp) := hL0.of_heap (by rfl)
  obtain ⟨args, hargs⟩ : ∃ args, args = inp.args := ⟨_, rfl⟩
  rw [← hWe] at hW hL hsh hval0 ⊢
  rw [← hargs] at hW hval0 ⊢
  have key : Calls Tryz.prog 3 args W fun e W' => ∃ v, e = .returned v ∧ Rows.fnChecksSpec.post enc Tryz.prog Tryz.f3 false true false false W args v W' := by
    have hval : ∀ (j : Nat) t v, Tryz.f3.params[j]? = some t → args[j]? = some v → Value.okWide Tryz.prog W .any _ t v := hval0
    have hW' := hW
    obtain ⟨p, q, hA0, hV, rfl, hfz, hnd⟩ := hW
    have hA : DataW.TrodAll enc Tryz.prog W 0 (fun _ => true) true Tryz.f3.params.toList args.toList ds p := hA0
    rw [Tryz.params3] at hA hval
    obtain ⟨v0, d0, rfl, rfl, h0⟩ := trodAll_one hA
    obtain ⟨g, t, cs, fuel, dv, pv, rfl, g1, g2, g3, g4, rfl⟩ := trodVars_one hV
    have k0 := h0
    have lt0 : ∀ x ∈ p, x.block < W.heap.size := by obtain ⟨m, hm⟩ := k0; exact DataW.trod_lt m _ _ _ hm
    obtain ⟨a0, n0, c0, l0, rfl, hn0, hB0⟩ := open_byteS (hval 0 22 v0 rfl rfl) h0
    obtain rfl : g = 0 := Option.some.inj (g1.symm.trans (show Tryz.prog.globalNamed "loop.example/g00304/impl.kindNames" = some 0 by kernel_rfl))
    obtain rfl : t = 155 := Option.some.inj (g2.symm.trans (show (Tryz.prog.globals[0]?).map (·.type) = some 155 by kernel_rfl))
    have kv : DataW.Trod enc Tryz.prog W 0 (fun _ => true) true 155 (.agg cs) dv pv := ⟨fuel, g4⟩
    have ltv : ∀ x ∈ pv, x.block < W.heap.size := DataW.trod_lt fuel _ _ _ g4
    clear hA0 hval0
    refine (lawChecks n0 c0 a0 l0 W (handle_of_laid hL) (Ev_ofC hL hsh) hB0).mono fun e W' ⟨he, bel⟩ => ?_
    subst he
    obtain ⟨fuel2, g5⟩ := Below.trod Tryz.laidOut (by kernel_rfl) (of_decide_eq_true (by kernel_rfl)) kv bel ltv
    exact ⟨_, rfl, _, _, _, [], _, _, hW', trodAll_mk1 (shut_bool Tryz.underlying4 _), trodAll_mk1 (Below.trod Tryz.laidOut (by kernel_rfl) (of_decide_eq_true (by kernel_rfl)) k0 bel lt0), trodVars_mk1 g1 g2 (var_below g3 bel (Nat.le_refl _)) g5, bel.frame _, fun h => by cases h⟩
  refine key.mono fun e W' ⟨v, he, hp⟩ => ?_
  subst he
  exact ChangeSpec.post_blind hp

set_option maxRecDepth 100000 in
set_option maxHeartbeats 4000000 in
theorem joinedChecks : joinedFacts Tryz.prog 3 Tryz.f3 Rows.fnChecksSpec Rows.fnChecksRow = true := by
  unfold joinedFacts
  repeat' (with_reducible refine (Bool.and_eq_true _ _).mpr ⟨?_, ?_⟩)
  rotate_left 24
  · exact Tryz.stopsHeardIs
  · exact Tryz.mayEnterIs
  · exact Tryz.lifts_of rfl
  all_goals (as_aux_lemma => kernel_rfl)

theorem checks_holds : Rows.FnChecksSaid :=
  OpenClaim.holds_of_wide 3 Tryz.f3 rfl rfl rfl rfl rfl rfl rfl ⟨rfl, rfl, rfl, rfl, rfl⟩ rfl rfl rfl rfl rfl (by kernel_rfl) Tryz.func3 joinedChecks
    (of_decide_eq_true (by kernel_rfl)) (by unfold Func.isWrapper; rw [if_neg (of_decide_eq_false (by kernel_rfl))]; exact ⟨rfl, rfl⟩)
    (fun os started H enc _ => liftedChecks os started H enc)

theorem checks_card_holds : Rows.FnChecksCardSaid :=
  Claim7.holds_tied_plain_at .later [] [.data, .data, .data, .data, .handle, .data, .pinned] true (true, "a3bf3ea31dc7776697377dddd6afddce60b9f9c58797198d111f456893d5637e") true
    checks_holds (fun _ h => by cases h) (by kernel_rfl) (fun _ h => by cases h) fnChecks_row_tie rfl ⟨rfl, rfl⟩ (by kernel_rfl) rfl
    (fun f fn hf hfn => by
      obtain rfl : f = 3 := Option.some.inj ((show Tryz.prog.funcNamed "loop.example/g00304/laws.FnChecks" = some 3 by kernel_rfl).symm.trans hf) |>.symm
      obtain rfl : fn = Tryz.f3 := (Option.some.inj (Tryz.func3.symm.trans hfn)).symm
      exact ⟨by kernel_rfl, fun j t ht => by
        rw [Tryz.params3] at ht
        rcases j with _ | j
        · obtain rfl : t = 22 := by simpa using ht.symm
          exact (show Tryz.prog.wantsStandIn 22 = false by kernel_rfl)
        · simp at ht⟩)
    (by kernel_rfl)

#print axioms checks_card_holds
end Go.Proofs.YtagokfoimokniaaGreatDoor
