/- Whatever bytes it is given, the law FnCoinTexts returns true and leaves them as they were; what the five listed variables read as is the row's condition, tied to the program's text by the given tie. -/
import Derived.Test.YtlcdhhaikhieiaaDoorLCoinTexts
import Derived.Test.YtlcdhhaikhieiaaDoorOp
import Derived.Test.YtlcdhhaikhieiaaDoorOpY
import Derived.Test.YtlcdhhaikhieiaaDoorJf
import Derived.Test.YtlcdhhaikhieiaaDoorTie
import Derived.Test.YtlcdhhaikhieiaaDoorCards
import Derived.Carry
import Derived.Shelf.Vars
import Derived.Handed
import Derived.OpenShut
import Derived.ChangeSame
import Derived.ChangeVars
import Derived.JoinedOf
import Derived.RowKit
import Derived.RowKitTokens
import Derived.LaidLaws
import Derived.LaidHandle
import Derived.Lib.LaidTab
import Derived.Stop.LaidErr
import Derived.Stop.Joined
import Derived.SevenTiedAt
namespace Go.Proofs.YtlcdhhaikhieiaaDoor
open Go.ChangeShapes Go.WideShapes Go.ChangeAt Go.RowKit Go.Joins
open Go.ChangeMaps (open_string shut_string)

/-- The settled world, the five listed variables holding what their initialisers lay: the witness. -/
def rcCells (l : List Value) : Obj → Obj
  | .cells _ t frozen => .cells l.toArray t frozen
  | o => o
def rcNums (k : IntKind) (l : List Int) : List Value := l.map fun z => Value.int k z
noncomputable def rcHeld (os : Os) : World := World.holding Tryd.prog os ⟨#[], #[], []⟩
noncomputable def rcWorld (os : Os) : World :=
  { rcHeld os with heap := (rcHeld os).heap |>.modify 0 (rcCells (rcNums .u8 (Go.Pinned.utf8FirstZ.map Int.ofNat))) |>.modify 1 (rcCells (rcNums .u8 [128, 191, 160, 191, 128, 159, 144, 191, 128, 143, 0, 0, 0, 0, 0, 0, 0, 0, 0, 0, 0, 0, 0, 0, 0, 0, 0, 0, 0, 0, 0, 0])) |>.modify 3 (rcCells (rcNums .u64 [1, 10, 100, 1000, 10000, 100000, 1000000, 10000000, 100000000, 1000000000, 10000000000, 100000000000, 1000000000000, 10000000000000, 100000000000000, 1000000000000000, 10000000000000000, 100000000000000000, 1000000000000000000, 10000000000000000000])) |>.modify 4 (rcCells (rcNums .u8 [0, 1, 28, 2, 29, 14, 24, 3, 30, 22, 20, 15, 25, 17, 4, 8, 31, 27, 13, 23, 21, 19, 16, 7, 26, 12, 18, 6, 11, 5, 10, 9])) |>.modify 5 (rcCells (rcNums .u8 [0, 1, 56, 2, 57, 49, 28, 3, 61, 58, 42, 50, 38, 29, 17, 4, 62, 47, 59, 36, 45, 43, 51, 22, 53, 39, 33, 30, 24, 18, 12, 5, 63, 55, 48, 27, 60, 41, 37, 16, 46, 35, 44, 21, 52, 32, 23, 11, 54, 26, 40, 15, 34, 20, 31, 10, 25, 14, 19, 9, 13, 8, 7, 6])) }
set_option maxRecDepth 100000 in
theorem rcWorld_met (os : Os) (args : Array Value) : laidMetH Tryd.prog Rows.fnCoinTextsRow.laid ((rcWorld os).forCall (fun _ _ => 0) ⟨#[], args, []⟩).memory :=
  laidMetH_of_parts (laidMet_of_run' 8 (by kernel_rfl) (by kernel_rfl)) (by kernel_rfl)

set_option maxRecDepth 100000 in
theorem Tb_of_laidCT {W : World} (h : laidMetH Tryd.prog Rows.fnCoinTextsRow.laid W) : Tb W := by
  have h' : laidMet Tryd.prog Rows.fnCoinTextsRow.laid W := h
  have h2 := laidMet.tail (laidMet.tail h')
  exact Lib.tabIs_of_head (g := 3) (t := 129) (e := 116) (n := 20) (by kernel_rfl) (by kernel_rfl) (by kernel_rfl) (by kernel_rfl) (by kernel_rfl) (by kernel_rfl) h2
set_option maxRecDepth 100000 in
theorem liftedCoinTexts (os : Os) (started : os.Started) (H : Type) (enc : TypeId × Value → H) :
    ReturnsInHanded {} Tryd.checked os 3 .any (fun w args => (Rows.fnCoinTextsSpec.pre enc Tryd.prog Tryd.f3 [] false w args ∧ laidMetH Tryd.prog Rows.fnCoinTextsRow.laid w) ∧ sizedMet enc Tryd.prog Tryd.f3 (OpenSpec.ofChange Rows.fnCoinTextsSpec) false w args)
      (Rows.fnCoinTextsSpec.post enc Tryd.prog Tryd.f3 false true false false) := by
  refine returnsInHanded_of_calls (C := Tryd.checked) Tryd.own started (by kernel_rfl)
    (ChangeSpec.witness_at (enc := enc) (C := Tryd.checked) (os := os) (X := fun w _ => laidMetH Tryd.prog Rows.fnCoinTextsRow.laid w) false (rcWorld os) #[.slice none 0 0] 8 rfl (by kernel_rfl) (by kernel_rfl) (by kernel_rfl) (by kernel_rfl) (by kernel_rfl) (rcWorld_met os _)) ?_
  intro w0 tape inp _ hsh _ hok hpre _
  obtain ⟨_, _, _, fn', hfn', _, _, _, _, hval0⟩ := hok
  obtain rfl : fn' = Tryd.f3 := Option.some.inj (hfn'.symm.trans Tryd.func3)
  obtain ⟨⟨⟨ds, gs, before, hw0, _⟩, hL0⟩, _⟩ := hpre
  obtain ⟨W, hWe⟩ : ∃ W, W = w0.forCall tape inp := ⟨_, rfl⟩
  have hW := DataW.Whole.of_heap (w' := w0.forCall tape inp) (by rfl) hw0
  have hL : laidMetH Tryd.prog Rows.fnCoinTextsRow.laid (w0.forCall tape inp) := hL0.of_heap (by rfl)
  obtain ⟨args, hargs⟩ : ∃ args, args = inp.args := ⟨_, rfl⟩
  rw [← hWe] at hW hL hsh hval0 ⊢
  rw [← hargs] at hW hval0 ⊢
  have key : Calls Tryd.prog 3 args W fun e W' => ∃ v, e = .returned v ∧ Rows.fnCoinTextsSpec.post enc Tryd.prog Tryd.f3 false true false false W args v W' := by
    have hval : ∀ (j : Nat) t v, Tryd.f3.params[j]? = some t → args[j]? = some v → Value.okWide Tryd.prog W .any _ t v := hval0
    have hW' := hW
    obtain ⟨p, q, hA0, hV, rfl, hfz, hnd⟩ := hW
    have hA : DataW.TrodAll enc Tryd.prog W 0 (fun _ => true) true Tryd.f3.params.toList args.toList ds p := hA0
    rw [Tryd.params3] at hA hval
    obtain ⟨v0, d0, rfl, rfl, h0⟩ := trodAll_one hA
    obtain ⟨rfl, rfl⟩ := trodVars_none hV
    have k0 := h0
    have lt0 : ∀ x ∈ p, x.block < W.heap.size := by obtain ⟨m, hm⟩ := k0; exact DataW.trod_lt m _ _ _ hm
    obtain ⟨a0, n0, c0, l0, rfl, _, hI0⟩ := open_byteS (hval 0 22 v0 rfl rfl) h0
    clear hA0 hval0
    refine (lawCoinTexts n0 c0 a0 l0 W hI0 (Tb_of_laidCT hL)).mono fun e W' ⟨he, bel⟩ => ?_
    subst he
    exact ⟨_, rfl, _, _, _, [], _, [], hW', trodAll_mk1 (shut_bool Tryd.underlying4 _), trodAll_mk1 (Below.trod Tryd.laidOut (by kernel_rfl) (of_decide_eq_true (by kernel_rfl)) k0 bel lt0), rfl, bel.frame _, fun h => by cases h⟩
  refine key.mono fun e W' ⟨v, he, hp⟩ => ?_
  subst he
  exact ChangeSpec.post_blind hp

set_option maxRecDepth 100000 in
set_option maxHeartbeats 4000000 in
theorem joinedCoinTexts : joinedFacts Tryd.prog 3 Tryd.f3 Rows.fnCoinTextsSpec Rows.fnCoinTextsRow = true := by
  unfold joinedFacts
  repeat' (with_reducible refine (Bool.and_eq_true _ _).mpr ⟨?_, ?_⟩)
  rotate_left 24
  · exact Tryd.stopsHeardIs
  · exact Tryd.mayEnterIs
  · exact Tryd.lifts_of rfl
  all_goals (as_aux_lemma => kernel_rfl)

theorem coinTexts_holds : Rows.FnCoinTextsSaid :=
  OpenClaim.holds_of_wide 3 Tryd.f3 rfl rfl rfl rfl rfl rfl rfl ⟨rfl, rfl, rfl, rfl, rfl⟩ rfl rfl rfl rfl rfl (by kernel_rfl) Tryd.func3 joinedCoinTexts
    (of_decide_eq_true (by kernel_rfl)) (by unfold Func.isWrapper; rw [if_neg (of_decide_eq_false (by kernel_rfl))]; exact ⟨rfl, rfl⟩)
    (fun os started H enc _ => liftedCoinTexts os started H enc)

theorem coinTexts_card_holds : Rows.FnCoinTextsCardSaid :=
  Claim7.holds_tied_plain_at .later [] [.data, .data, .data, .data, .pinned] true (true, "422cf8357efd1ffbb5e01b7b4018b3ca77e6b8626a7663024e5e6617c53b9e92") false
    coinTexts_holds (fun _ h => by cases h) (by kernel_rfl) (fun _ h => by cases h) fnCoinTexts_row_tie rfl ⟨rfl, rfl⟩ (by kernel_rfl) rfl
    (fun f fn hf hfn => by
      obtain rfl : f = 3 := Option.some.inj ((show Tryd.prog.funcNamed "loop.example/g00304/laws.FnCoinTexts" = some 3 by kernel_rfl).symm.trans hf) |>.symm
      obtain rfl : fn = Tryd.f3 := (Option.some.inj (Tryd.func3.symm.trans hfn)).symm
      exact ⟨by kernel_rfl, fun j t ht => by
        rw [Tryd.params3] at ht
        have h3 : t = 22 := by
          rcases j with _ | j
          · simpa using ht.symm
          · simp at ht
        subst h3
        exact (show Tryd.prog.wantsStandIn 22 = false by kernel_rfl)⟩)
    (by kernel_rfl)

#print axioms coinTexts_card_holds
end Go.Proofs.YtlcdhhaikhieiaaDoor
