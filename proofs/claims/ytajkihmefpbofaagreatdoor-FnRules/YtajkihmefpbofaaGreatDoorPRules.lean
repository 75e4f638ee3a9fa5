/- Whatever bytes it is given, the law FnRules returns true and leaves them as they were; what the seven listed variables read as is the row's condition, tied to the program's text by the given tie. -/
import Derived.Test.YtajkihmefpbofaaGreatDoorCf
import Derived.Test.YtajkihmefpbofaaGreatDoorOp
import Derived.Test.YtajkihmefpbofaaGreatDoorOpY
import Derived.Test.YtajkihmefpbofaaGreatDoorJf
import Derived.Test.YtajkihmefpbofaaGreatDoorTie
import Derived.Test.YtajkihmefpbofaaGreatDoorCards
import Derived.Carry
import Derived.Shelf.Vars
import Derived.Handed
import Derived.OpenShut
import Derived.ChangeSame
import Derived.ChangeVars
import Derived.JoinedOf
import Derived.RowKit
import Derived.RowKitTokens
import Derived.LaidLaws
import Derived.LaidHandle
import Derived.Lib.LaidTab
import Derived.Stop.LaidErr
import Derived.Stop.Joined
import Derived.SevenTiedAt
namespace Go.Proofs.YtajkihmefpbofaaGreatDoor
open Go.ChangeShapes Go.WideShapes Go.ChangeAt Go.RowKit Go.Joins
open Go.ChangeMaps (open_string shut_string)

/-- The settled world, the seven listed variables holding what their initialisers lay: the witness. -/
def ruCells (l : List Value) : Obj → Obj
  | .cells _ t frozen => .cells l.toArray t frozen
  | o => o
def ruNums (k : IntKind) (l : List Int) : List Value := l.map fun z => Value.int k z
noncomputable def ruLow : Nat := (World.holding Tryz.prog default ⟨#[], #[], []⟩).heap.size
noncomputable def ruHeld (os : Os) : World := World.holding Tryz.prog os ⟨#[.cells #[.string (str [118, 97, 108, 117, 101, 32, 111, 117, 116, 32, 111, 102, 32, 114, 97, 110, 103, 101])] 176, .cells #[.string (str [105, 110, 118, 97, 108, 105, 100, 32, 115, 121, 110, 116, 97, 120])] 176], #[], []⟩
noncomputable def ruWorld (os : Os) : World :=
  { ruHeld os with heap := (ruHeld os).heap |>.modify 2 (ruCells [.iface 174 (.pointer (some ⟨ruLow, 0, none⟩))]) |>.modify 1 (ruCells [.iface 174 (.pointer (some ⟨ruLow + 1, 0, none⟩))]) |>.modify 4 (ruCells (ruNums .u8 (Go.Pinned.utf8FirstZ.map Int.ofNat))) |>.modify 5 (ruCells (ruNums .u8 [128, 191, 160, 191, 128, 159, 144, 191, 128, 143, 0, 0, 0, 0, 0, 0, 0, 0, 0, 0, 0, 0, 0, 0, 0, 0, 0, 0, 0, 0, 0, 0])) |>.modify 3 (ruCells (ruNums .u64 [1, 10, 100, 1000, 10000, 100000, 1000000, 10000000, 100000000, 1000000000, 10000000000, 100000000000, 1000000000000, 10000000000000, 100000000000000, 1000000000000000, 10000000000000000, 100000000000000000, 1000000000000000000, 10000000000000000000])) |>.modify 6 (ruCells (ruNums .u8 [0, 1, 28, 2, 29, 14, 24, 3, 30, 22, 20, 15, 25, 17, 4, 8, 31, 27, 13, 23, 21, 19, 16, 7, 26, 12, 18, 6, 11, 5, 10, 9])) |>.modify 7 (ruCells (ruNums .u8 [0, 1, 56, 2, 57, 49, 28, 3, 61, 58, 42, 50, 38, 29, 17, 4, 62, 47, 59, 36, 45, 43, 51, 22, 53, 39, 33, 30, 24, 18, 12, 5, 63, 55, 48, 27, 60, 41, 37, 16, 46, 35, 44, 21, 52, 32, 23, 11, 54, 26, 40, 15, 34, 20, 31, 10, 25, 14, 19, 9, 13, 8, 7, 6])) }
set_option maxRecDepth 100000 in
theorem ruWorld_met (os : Os) (args : Array Value) : laidMetH Tryz.prog Rows.fnRulesRow.laid ((ruWorld os).forCall (fun _ _ => 0) ⟨#[], args, []⟩).memory :=
  laidMetH_of_parts (laidMet_of_run' 8 (by kernel_rfl) (by kernel_rfl)) (by kernel_rfl)

theorem Tryz.gERr : Tryz.prog.globalNamed "strconv.ErrRange" = some 2 := by kernel_rfl
theorem Tryz.gESr : Tryz.prog.globalNamed "strconv.ErrSyntax" = some 1 := by kernel_rfl
theorem Tryz.gERTyper : (Tryz.prog.globals[2]?).map (·.type) = some 104 := by kernel_rfl
theorem Tryz.gESTyper : (Tryz.prog.globals[1]?).map (·.type) = some 104 := by kernel_rfl
theorem Tryz.starr : "*" ++ "errors.errorString" = "*errors.errorString" := by decide
theorem Tryz.rowESr (u : TypeId) (h : Tryz.prog.typeName? 3 u = some "*errors.errorString") : u = 174 :=
  typeName_ptr_named (nm := "errors.errorString") (by rw [Tryz.starr]; kernel_rfl) (by kernel_rfl) (by decide) u (by rw [Tryz.starr]; exact h)
theorem Tryz.cellsESr : Tryz.prog.cellsOf 176 = 1 := by kernel_rfl
theorem Tryz.cellsSr : Tryz.prog.cellsOf 9 = 1 := by kernel_rfl

set_option maxRecDepth 100000 in
theorem Tb_of_laidU {W : World} (h : laidMetH Tryz.prog Rows.fnRulesRow.laid W) : Tb W := by
  have h' : laidMet Tryz.prog Rows.fnRulesRow.laid W := h
  have h2 := laidMet.tail (laidMet.tail h')
  exact Lib.tabIs_of_head (g := 3) (t := 163) (e := 141) (n := 20) (by kernel_rfl) (by kernel_rfl) (by kernel_rfl) (by kernel_rfl) (by kernel_rfl) (by kernel_rfl) h2
set_option maxRecDepth 100000 in
theorem Erv_of_laidU {W : World} (h : laidMetH Tryz.prog Rows.fnRulesRow.laid W) : Erv W := by
  have h' : laidMet Tryz.prog Rows.fnRulesRow.laid W := h
  have h2 := laidMet.tail (laidMet.tail (laidMet.tail (laidMet.tail h')))
  obtain ⟨a0, s0, hv0, -, -, -⟩ := laid_sentinel h2 Tryz.gERr Tryz.gERTyper Tryz.underlying104 Tryz.rowESr Tryz.underlying174 Tryz.underlying176 rfl rfl Tryz.underlying9 Tryz.cellsESr Tryz.cellsSr
  obtain ⟨a1, s1, hv1, -, -, -⟩ := laid_sentinel (laidMet.tail h2) Tryz.gESr Tryz.gESTyper Tryz.underlying104 Tryz.rowESr Tryz.underlying174 Tryz.underlying176 rfl rfl Tryz.underlying9 Tryz.cellsESr Tryz.cellsSr
  exact ⟨⟨_, by simpa using World.var?_cell Tryz.gESr hv1 0, .inr ⟨_, _, rfl⟩⟩, _, by simpa using World.var?_cell Tryz.gERr hv0 0, .inr ⟨_, _, rfl⟩⟩

set_option maxRecDepth 100000 in
theorem liftedRules (os : Os) (started : os.Started) (H : Type) (enc : TypeId × Value → H) :
    ReturnsInHanded {} Tryz.checked os 3 .any (fun w args => (Rows.fnRulesSpec.pre enc Tryz.prog Tryz.f3 [] false w args ∧ laidMetH Tryz.prog Rows.fnRulesRow.laid w) ∧ sizedMet enc Tryz.prog Tryz.f3 (OpenSpec.ofChange Rows.fnRulesSpec) false w args)
      (Rows.fnRulesSpec.post enc Tryz.prog Tryz.f3 false true false false) := by
  refine returnsInHanded_of_calls (C := Tryz.checked) Tryz.own started (by kernel_rfl)
    (ChangeSpec.witness_at (enc := enc) (C := Tryz.checked) (os := os) (X := fun w _ => laidMetH Tryz.prog Rows.fnRulesRow.laid w) false (ruWorld os) #[.slice none 0 0] 8 rfl (by kernel_rfl) (by kernel_rfl) (by kernel_rfl) (by kernel_rfl) (by kernel_rfl) (ruWorld_met os _)) ?_
  intro w0 tape inp _ hsh _ hok hpre _
  obtain ⟨_, _, _, fn', hfn', _, _, _, _, hval0⟩ := hok
  obtain rfl : fn' = Tryz.f3 := Option.some.inj (hfn'.symm.trans Tryz.func3)
  obtain ⟨⟨⟨ds, gs, before, hw0, _⟩, hL0⟩, _⟩ := hpre
  obtain ⟨W, hWe⟩ : ∃ W, W = w0.forCall tape inp := ⟨_, rfl⟩
  have hW := DataW.Whole.of_heap (w' := w0.forCall tape inp) (by rfl) hw0
  have hL : laidMetH Tryz.prog Rows.fnRulesRow.laid (w0.forCall tape inp) := hL0.of_heap (by rfl)
  obtain ⟨args, hargs⟩ : ∃ args, args = inp.args := ⟨_, rfl⟩
  rw [← hWe] at hW hL hsh hval0 ⊢
  rw [← hargs] at hW hval0 ⊢
  have key : Calls Tryz.prog 3 args W fun e W' => ∃ v, e = .returned v ∧ Rows.fnRulesSpec.post enc Tryz.prog Tryz.f3 false true false false W args v W' := by
    have hval : ∀ (j : Nat) t v, Tryz.f3.params[j]? = some t → args[j]? = some v → Value.okWide Tryz.prog W .any _ t v := hval0
    have hW' := hW
    obtain ⟨p, q, hA0, hV, rfl, hfz, hnd⟩ := hW
    have hA : DataW.TrodAll enc Tryz.prog W 0 (fun _ => true) true Tryz.f3.params.toList args.toList ds p := hA0
    rw [Tryz.params3] at hA hval
    obtain ⟨v0, d0, rfl, rfl, h0⟩ := trodAll_one hA
    obtain ⟨rfl, rfl⟩ := trodVars_none hV
    have k0 := h0
    have lt0 : ∀ x ∈ p, x.block < W.heap.size := by obtain ⟨m, hm⟩ := k0; exact DataW.trod_lt m _ _ _ hm
    obtain ⟨a0, n0, c0, l0, rfl, _, hI0⟩ := open_byteS (hval 0 22 v0 rfl rfl) h0
    clear hA0 hval0
    obtain ⟨mx, hmx⟩ := cell_of_shapedOpen_int (g := 0) (t := 3) (zero := #[.int .i64 0]) hsh (of_decide_eq_true (by kernel_rfl)) (by kernel_rfl) rfl (by kernel_rfl) (by kernel_rfl) Tryz.underlying3
    refine (lawRules n0 c0 a0 l0 mx W hmx (Erv_of_laidU hL) (Tb_of_laidU hL) hI0).mono fun e W' ⟨he, bel⟩ => ?_
    subst he
    exact ⟨_, rfl, _, _, _, [], _, [], hW', trodAll_mk1 (shut_bool Tryz.underlying4 _), trodAll_mk1 (Below.trod Tryz.laidOut (by kernel_rfl) (of_decide_eq_true (by kernel_rfl)) k0 bel lt0), rfl, bel.frame _, fun h => by cases h⟩
  refine key.mono fun e W' ⟨v, he, hp⟩ => ?_
  subst he
  exact ChangeSpec.post_blind hp

set_option maxRecDepth 100000 in
set_option maxHeartbeats 4000000 in
theorem joinedRules : joinedFacts Tryz.prog 3 Tryz.f3 Rows.fnRulesSpec Rows.fnRulesRow = true := by
  unfold joinedFacts
  repeat' (with_reducible refine (Bool.and_eq_true _ _).mpr ⟨?_, ?_⟩)
  rotate_left 24
  · exact Tryz.stopsHeardIs
  · exact Tryz.mayEnterIs
  · exact Tryz.lifts_of rfl
  all_goals (as_aux_lemma => kernel_rfl)

theorem rules_holds : Rows.FnRulesSaid :=
  OpenClaim.holds_of_wide 3 Tryz.f3 rfl rfl rfl rfl rfl rfl rfl ⟨rfl, rfl, rfl, rfl, rfl⟩ rfl rfl rfl rfl rfl (by kernel_rfl) Tryz.func3 joinedRules
    (of_decide_eq_true (by kernel_rfl)) (by unfold Func.isWrapper; rw [if_neg (of_decide_eq_false (by kernel_rfl))]; exact ⟨rfl, rfl⟩)
    (fun os started H enc _ => liftedRules os started H enc)

theorem rules_card_holds : Rows.FnRulesCardSaid :=
  Claim7.holds_tied_plain_at .later [] [.data, .data, .data, .data, .sentinel, .sentinel, .pinned] true (true, "ffbe7dcefda71afbb142f2ec0093a63843fb461e08bf3bca2976d9627cce4aa0") true
    rules_holds (fun _ h => by cases h) (by kernel_rfl) (fun _ h => by cases h) fnRules_row_tie rfl ⟨rfl, rfl⟩ (by kernel_rfl) rfl
    (fun f fn hf hfn => by
      obtain rfl : f = 3 := Option.some.inj ((show Tryz.prog.funcNamed "loop.example/g00304/laws.FnRules" = some 3 by kernel_rfl).symm.trans hf) |>.symm
      obtain rfl : fn = Tryz.f3 := (Option.some.inj (Tryz.func3.symm.trans hfn)).symm
      exact ⟨by kernel_rfl, fun j t ht => by
        rw [Tryz.params3] at ht
        have h3 : t = 22 := by
          rcases j with _ | j
          · simpa using ht.symm
          · simp at ht
        subst h3
        exact (show Tryz.prog.wantsStandIn 22 = false by kernel_rfl)⟩)
    (by kernel_rfl)

#print axioms rules_card_holds
end Go.Proofs.YtajkihmefpbofaaGreatDoor
