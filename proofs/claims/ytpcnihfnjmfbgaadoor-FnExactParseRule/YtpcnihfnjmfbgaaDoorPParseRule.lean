/- Whatever text it is given, the law FnExactParseRule returns true and leaves its argument as it was; what the seven listed variables read as is the row's condition, tied to the program's text by the given tie. -/
import Derived.Test.YtpcnihfnjmfbgaaDoorLParseRule
import Derived.Test.YtpcnihfnjmfbgaaDoorOp
import Derived.Test.YtpcnihfnjmfbgaaDoorJf
import Derived.Test.YtpcnihfnjmfbgaaDoorTie
import Derived.Test.YtpcnihfnjmfbgaaDoorCards
import Derived.Carry
import Derived.Shelf.Vars
import Derived.Handed
import Derived.OpenShut
import Derived.ChangeSame
import Derived.ChangeVars
import Derived.JoinedOf
import Derived.RowKit
import Derived.RowKitTokens
import Derived.LaidLaws
import Derived.LaidHandle
import Derived.Lib.LaidTab
import Derived.Stop.LaidErr
import Derived.Stop.Joined
import Derived.SevenTiedAt
namespace Go.Proofs.YtpcnihfnjmfbgaaDoor
open Go.ChangeShapes Go.WideShapes Go.ChangeAt Go.RowKit Go.Joins
open Go.ChangeMaps (open_string shut_string)

/-- The settled world, the seven listed variables holding what their initialisers lay: the witness. -/
def ckCells (l : List Value) : Obj → Obj
  | .cells _ t frozen => .cells l.toArray t frozen
  | o => o
def ckNums (k : IntKind) (l : List Int) : List Value := l.map fun z => Value.int k z
noncomputable def prLow : Nat := (World.holding Tryd.prog default ⟨#[], #[], []⟩).heap.size
noncomputable def prHeld (os : Os) : World := World.holding Tryd.prog os ⟨#[.cells #[.string (str [118, 97, 108, 117, 101, 32, 111, 117, 116, 32, 111, 102, 32, 114, 97, 110, 103, 101])] 114, .cells #[.string (str [105, 110, 118, 97, 108, 105, 100, 32, 115, 121, 110, 116, 97, 120])] 114], #[], []⟩
noncomputable def prWorld (os : Os) : World :=
  { prHeld os with heap := (prHeld os).heap |>.modify 2 (ckCells [.iface 112 (.pointer (some ⟨prLow, 0, none⟩))]) |>.modify 1 (ckCells [.iface 112 (.pointer (some ⟨prLow + 1, 0, none⟩))]) |>.modify 3 (ckCells (ckNums .u8 (Go.Pinned.utf8FirstZ.map Int.ofNat))) |>.modify 4 (ckCells (ckNums .u8 [128, 191, 160, 191, 128, 159, 144, 191, 128, 143, 0, 0, 0, 0, 0, 0, 0, 0, 0, 0, 0, 0, 0, 0, 0, 0, 0, 0, 0, 0, 0, 0])) |>.modify 5 (ckCells (ckNums .u64 [1, 10, 100, 1000, 10000, 100000, 1000000, 10000000, 100000000, 1000000000, 10000000000, 100000000000, 1000000000000, 10000000000000, 100000000000000, 1000000000000000, 10000000000000000, 100000000000000000, 1000000000000000000, 10000000000000000000])) |>.modify 6 (ckCells (ckNums .u8 [0, 1, 28, 2, 29, 14, 24, 3, 30, 22, 20, 15, 25, 17, 4, 8, 31, 27, 13, 23, 21, 19, 16, 7, 26, 12, 18, 6, 11, 5, 10, 9])) |>.modify 7 (ckCells (ckNums .u8 [0, 1, 56, 2, 57, 49, 28, 3, 61, 58, 42, 50, 38, 29, 17, 4, 62, 47, 59, 36, 45, 43, 51, 22, 53, 39, 33, 30, 24, 18, 12, 5, 63, 55, 48, 27, 60, 41, 37, 16, 46, 35, 44, 21, 52, 32, 23, 11, 54, 26, 40, 15, 34, 20, 31, 10, 25, 14, 19, 9, 13, 8, 7, 6])) }
set_option maxRecDepth 100000 in
theorem prWorld_met (os : Os) (args : Array Value) : laidMetH Tryd.prog Rows.fnExactParseRuleRow.laid ((prWorld os).forCall (fun _ _ => 0) ⟨#[], args, []⟩).memory :=
  laidMetH_of_parts (laidMet_of_run' 8 (by kernel_rfl) (by kernel_rfl)) (by kernel_rfl)

theorem Tryd.gER : Tryd.prog.globalNamed "strconv.ErrRange" = some 2 := by kernel_rfl
theorem Tryd.gES : Tryd.prog.globalNamed "strconv.ErrSyntax" = some 1 := by kernel_rfl
theorem Tryd.gERType : (Tryd.prog.globals[2]?).map (·.type) = some 57 := by kernel_rfl
theorem Tryd.gESType : (Tryd.prog.globals[1]?).map (·.type) = some 57 := by kernel_rfl
theorem Tryd.star : "*" ++ "errors.errorString" = "*errors.errorString" := by decide
theorem Tryd.rowES (u : TypeId) (h : Tryd.prog.typeName? 3 u = some "*errors.errorString") : u = 112 :=
  typeName_ptr_named (nm := "errors.errorString") (by rw [Tryd.star]; kernel_rfl) (by kernel_rfl) (by decide) u (by rw [Tryd.star]; exact h)
theorem Tryd.cellsES : Tryd.prog.cellsOf 114 = 1 := by kernel_rfl
theorem Tryd.cellsS : Tryd.prog.cellsOf 9 = 1 := by kernel_rfl

set_option maxRecDepth 100000 in
theorem Tb_of_laidR {W : World} (h : laidMetH Tryd.prog Rows.fnExactParseRuleRow.laid W) : Tb W := by
  have h' : laidMet Tryd.prog Rows.fnExactParseRuleRow.laid W := h
  have h2 := laidMet.tail (laidMet.tail h')
  exact Lib.tabIs_of_head (g := 5) (t := 116) (e := 79) (n := 20) (by kernel_rfl) (by kernel_rfl) (by kernel_rfl) (by kernel_rfl) (by kernel_rfl) (by kernel_rfl) h2
set_option maxRecDepth 100000 in
theorem Erv_of_laid {W : World} (h : laidMetH Tryd.prog Rows.fnExactParseRuleRow.laid W) : Erv W := by
  have h' : laidMet Tryd.prog Rows.fnExactParseRuleRow.laid W := h
  have h2 := laidMet.tail (laidMet.tail (laidMet.tail (laidMet.tail h')))
  obtain ⟨a0, s0, hv0, -, -, -⟩ := laid_sentinel h2 Tryd.gER Tryd.gERType Tryd.underlying57 Tryd.rowES Tryd.underlying112 Tryd.underlying114 rfl rfl Tryd.underlying9 Tryd.cellsES Tryd.cellsS
  obtain ⟨a1, s1, hv1, -, -, -⟩ := laid_sentinel (laidMet.tail h2) Tryd.gES Tryd.gESType Tryd.underlying57 Tryd.rowES Tryd.underlying112 Tryd.underlying114 rfl rfl Tryd.underlying9 Tryd.cellsES Tryd.cellsS
  exact ⟨⟨_, by simpa using World.var?_cell Tryd.gES hv1 0, .inr ⟨_, _, rfl⟩⟩, _, by simpa using World.var?_cell Tryd.gER hv0 0, .inr ⟨_, _, rfl⟩⟩

set_option maxRecDepth 100000 in
theorem liftedParseRule (os : Os) (started : os.Started) (H : Type) (enc : TypeId × Value → H) :
    ReturnsInHanded {} Tryd.checked os 3 .any (fun w args => (Rows.fnExactParseRuleSpec.pre enc Tryd.prog Tryd.f3 [] false w args ∧ laidMetH Tryd.prog Rows.fnExactParseRuleRow.laid w) ∧ sizedMet enc Tryd.prog Tryd.f3 (OpenSpec.ofChange Rows.fnExactParseRuleSpec) false w args)
      (Rows.fnExactParseRuleSpec.post enc Tryd.prog Tryd.f3 false true false false) := by
  refine returnsInHanded_of_calls (C := Tryd.checked) Tryd.own started (by kernel_rfl)
    (ChangeSpec.witness_at (enc := enc) (C := Tryd.checked) (os := os) (X := fun w _ => laidMetH Tryd.prog Rows.fnExactParseRuleRow.laid w) false (prWorld os) #[.string ByteArray.empty] 8 rfl (by kernel_rfl) (by kernel_rfl) (by kernel_rfl) (by kernel_rfl) (by kernel_rfl) (prWorld_met os _)) ?_
  intro w0 tape inp _ hsh _ hok hpre _
  obtain ⟨_, _, _, fn', hfn', _, _, _, _, hval0⟩ := hok
  obtain rfl : fn' = Tryd.f3 := Option.some.inj (hfn'.symm.trans Tryd.func3)
  obtain ⟨⟨⟨ds, gs, before, hw0, _⟩, hL0⟩, _⟩ := hpre
  obtain ⟨W, hWe⟩ : ∃ W, W = w0.forCall tape inp := ⟨_, rfl⟩
  have hW := DataW.Whole.of_heap (w' := w0.forCall tape inp) (by rfl) hw0
  have hL : laidMetH Tryd.prog Rows.fnExactParseRuleRow.laid (w0.forCall tape inp) := hL0.of_heap (by rfl)
  obtain ⟨args, hargs⟩ : ∃ args, args = inp.args := ⟨_, rfl⟩
  rw [← hWe] at hW hL hsh hval0 ⊢
  rw [← hargs] at hW hval0 ⊢
  have key : Calls Tryd.prog 3 args W fun e W' => ∃ v, e = .returned v ∧ Rows.fnExactParseRuleSpec.post enc Tryd.prog Tryd.f3 false true false false W args v W' := by
    have hval : ∀ (j : Nat) t v, Tryd.f3.params[j]? = some t → args[j]? = some v → Value.okWide Tryd.prog W .any _ t v := hval0
    have hW' := hW
    obtain ⟨p, q, hA0, hV, rfl, hfz, hnd⟩ := hW
    have hA : DataW.TrodAll enc Tryd.prog W 0 (fun _ => true) true Tryd.f3.params.toList args.toList ds p := hA0
    rw [Tryd.params3] at hA hval
    obtain ⟨v0, d0, rfl, rfl, h0⟩ := trodAll_one hA
    obtain ⟨rfl, rfl⟩ := trodVars_none hV
    obtain ⟨s, rfl, rfl, rfl, hs⟩ := open_string Tryd.underlying9 (hval 0 9 v0 rfl rfl) h0
    obtain ⟨t, rfl⟩ : ∃ t, s = str t := ⟨s.data.toList, rfl⟩
    clear hA0 hval0
    obtain ⟨mx, hmx⟩ := cell_of_shapedOpen_int (g := 0) (t := 3) (zero := #[.int .i64 0]) hsh (of_decide_eq_true (by kernel_rfl)) (by kernel_rfl) rfl (by kernel_rfl) (by kernel_rfl) Tryd.underlying3
    refine (lawParseRule t mx W hmx (Erv_of_laid hL) (Tb_of_laidR hL)).mono fun e W' ⟨he, bel⟩ => ?_
    subst he
    exact ⟨_, rfl, _, _, _, [], _, [], hW', trodAll_mk1 (shut_bool Tryd.underlying4 _), trodAll_mk1 (shut_string Tryd.underlying9 hs), rfl, bel.frame _, fun h => by cases h⟩
  refine key.mono fun e W' ⟨v, he, hp⟩ => ?_
  subst he
  exact ChangeSpec.post_blind hp

set_option maxRecDepth 100000 in
set_option maxHeartbeats 4000000 in
theorem joinedParseRule : joinedFacts Tryd.prog 3 Tryd.f3 Rows.fnExactParseRuleSpec Rows.fnExactParseRuleRow = true := by
  unfold joinedFacts
  repeat' (with_reducible refine (Bool.and_eq_true _ _).mpr ⟨?_, ?_⟩)
  rotate_left 24
  · exact Tryd.stopsHeardIs
  · exact Tryd.mayEnterIs
  · exact Tryd.lifts_of rfl
  all_goals (as_aux_lemma => kernel_rfl)

theorem parseRule_holds : Rows.FnExactParseRuleSaid :=
  OpenClaim.holds_of_wide 3 Tryd.f3 rfl rfl rfl rfl rfl rfl rfl ⟨rfl, rfl, rfl, rfl, rfl⟩ rfl rfl rfl rfl rfl (by kernel_rfl) Tryd.func3 joinedParseRule
    (of_decide_eq_true (by kernel_rfl)) (by unfold Func.isWrapper; rw [if_neg (of_decide_eq_false (by kernel_rfl))]; exact ⟨rfl, rfl⟩)
    (fun os started H enc _ => liftedParseRule os started H enc)

theorem parseRule_card_holds : Rows.FnExactParseRuleCardSaid :=
  Claim7.holds_tied_plain_at .later [] [.data, .data, .data, .data, .sentinel, .sentinel, .pinned] true (true, "0bf8100ea34395c069656fd785787ceba1a79d3c2cf057eb206334f2d78a086f") true
    parseRule_holds (fun _ h => by cases h) (by kernel_rfl) (fun _ h => by cases h) fnExactParseRule_row_tie rfl ⟨rfl, rfl⟩ (by kernel_rfl) rfl
    (fun f fn hf hfn => by
      obtain rfl : f = 3 := Option.some.inj ((show Tryd.prog.funcNamed "loop.example/g00304/laws.FnExactParseRule" = some 3 by kernel_rfl).symm.trans hf) |>.symm
      obtain rfl : fn = Tryd.f3 := (Option.some.inj (Tryd.func3.symm.trans hfn)).symm
      exact ⟨by kernel_rfl, fun j t ht => by
        rw [Tryd.params3] at ht
        have h3 : t = 9 := by
          rcases j with _ | j
          · simpa using ht.symm
          · simp at ht
        subst h3
        exact (show Tryd.prog.wantsStandIn 9 = false by kernel_rfl)⟩)
    (by kernel_rfl)

#print axioms parseRule_card_holds
end Go.Proofs.YtpcnihfnjmfbgaaDoor
