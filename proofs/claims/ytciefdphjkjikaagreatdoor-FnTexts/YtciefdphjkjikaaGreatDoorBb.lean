/- A range over a function whose rounds may panic: the laws of the walk, and the pieces of a text told to such rounds. -/
import Derived.Test.YtciefdphjkjikaaGreatDoorAg
import Derived.RangeFuncLeaves
namespace Go.Proofs.YtciefdphjkjikaaGreatDoor
open Go.RowKit Go.Shelf Go.Maps Go.WideMaps
attribute [local go_sem] Oper.semAt_some

/-- What the readers panic with. -/
def pnV : Value := .iface 9 (.string (str [110, 111, 32, 116, 101, 120, 116, 32, 111, 102, 32, 97, 32, 116, 114, 97, 110, 115, 97, 99, 116, 105, 111, 110]))
def pnC : List PanicEntry := [{ v := pnV, recovered := false }]

/-- What a code comes to in a frame of one of the program's functions. -/
def wpX (c : Code) (Q : Exit → Act → World → Prop) (a : Act) (w : World) : Prop :=
  ∀ (b : Frame) (k : List Item) (cs : List Frame), b.roundOf = none → (Tryz.prog.funcs[b.fn]?).isSome = true →
    ∃ e a' w', Q e a' w' ∧ ArrivesIn (Machine.fenced Tryz.prog Fence.wide) Tryz.prog (lone (b.atR a (.code c :: k)) cs w) b k cs e a' w'

section
variable {Q : Exit → Act → World → Prop} {a : Act} {w : World}
theorem wpX_of {c : Code} {n : Nat} (h : c.wpIn Fence.wide n Tryz.prog Q a w) : wpX c Q a w := fun b k cs hro _ => h b k cs hro trivial (room_wide _)
theorem wpX_seq {x y : Code} (h : wpX x (Exit.then (wpX y Q) Q) a w) : wpX (Code.seq x y) Q a w := by
  intro b k cs hro hb
  have h0 : (lone (b.atR a (.code (.seq x y) :: k)) cs w).fenced Tryz.prog Fence.wide := fenced_wide _ _
  obtain ⟨e, a₁, w₁, hq, harr⟩ := h b (.code y :: k) cs hro hb
  cases e with
  | normal =>
    obtain ⟨e₂, a₂, w₂, hq₂, harr₂⟩ := hq b k cs hro hb
    exact ⟨e₂, a₂, w₂, hq₂, .of_steps (.head h0 stepR_seq harr) harr₂⟩
  | exit id => exact ⟨_, a₁, w₁, hq, .of_steps (.one h0 stepR_seq) (.pass (x := .code y) rfl (fun _ _ => .inl (by simp)) harr)⟩
  | goto l => exact ⟨_, a₁, w₁, hq, .of_steps (.one h0 stepR_seq) (.pass (x := .code y) rfl (fun _ _ => .inl (by simp)) harr)⟩
  | ret => exact ⟨_, a₁, w₁, hq, .of_steps (.one h0 stepR_seq) (.pass (x := .code y) rfl (fun _ _ => .inl (by simp)) harr)⟩
  | panic ch => exact ⟨_, a₁, w₁, hq, .of_steps (.one h0 stepR_seq) (.pass (x := .code y) rfl (fun _ _ => .inl (by simp)) harr)⟩
  | outgrown => exact ⟨_, a₁, w₁, hq, .of_steps (.one h0 stepR_seq) (.pass (x := .code y) rfl (fun _ _ => .inl (by simp)) harr)⟩
theorem wpX_block {id : Nat} {c : Code} (h : wpX c (fun e a w => (e = .normal ∧ Q .normal a w) ∨ ∃ ch, e = .panic ch ∧ Q (.panic ch) a w) a w) : wpX (Code.block id c) Q a w := by
  intro b k cs hro hb
  have h0 : (lone (b.atR a (.code (.block id c) :: k)) cs w).fenced Tryz.prog Fence.wide := fenced_wide _ _
  obtain ⟨e, a₁, w₁, hq, harr⟩ := h b (.inBlock id :: k) cs hro hb
  rcases hq with ⟨rfl, hq⟩ | ⟨ch, rfl, hq⟩
  · exact ⟨.normal, a₁, w₁, hq, .head h0 stepR_block (StepsIn.trans harr (.one (fenced_wide _ _) stepR_inBlock))⟩
  · exact ⟨_, a₁, w₁, hq, .of_steps (.one h0 stepR_block) harr⟩
theorem wpX_range {g : Operand} {ps : Array Tmp} {assign body : Code}
    (h : ∀ fn, (Tryz.prog.funcs[fn]?).isSome = true → ∃ (l : Nat) (mark : List Deferred) (w₁ : World) (d : Deferred) (w₁' : World) (f : FuncId) (args : Array Value) (w₂ : World),
      (Instr.enterLoop fn a.tmps ps assign body none).run Tryz.prog w = .ok (l, mark) w₁ ∧ (resolve a.eval (rangeCall g l) 0).run Tryz.prog w₁ = .ok d w₁' ∧ (invoke d.target d.args).run Tryz.prog w₁' = .ok (.enter f args) w₂ ∧
      Calls Tryz.prog f args w₂ (fun e w₃ => (∃ v w₄, e = .returned v ∧ (Instr.endLoop l).run Tryz.prog w₃ = .ok none w₄ ∧ Q .normal { a with defers := mark ++ a.defers } w₄) ∨ ∃ ch, e = .panicked ch ∧ Q (.panic ch) { a with defers := mark ++ a.defers } w₃)) :
    wpX (Code.rangeFunc g ps assign body) Q a w := by
  intro b k cs hro hb
  obtain ⟨l, mark, w₁, d, w₁', f, args, w₂, he, hres, hinv, hcall⟩ := h b.fn hb
  rw [← hro] at he
  have henter := stepR_rangeFunc (P := Tryz.prog) (b := b) (a := a) (k := k) (cs := cs) (w := w) he hres hinv
  obtain ⟨e, w₃, fr, hR, hsteps, hfn, hleave⟩ := hcall (b.atR { a with defers := mark ++ a.defers } (.inRangeFunc l :: k) :: cs)
  rcases hR with ⟨v, w₄, rfl, hend, hj⟩ | ⟨ch, rfl, hq⟩
  · refine ⟨.normal, _, w₄, hj, stepsIn_wide.2 (.head henter (Steps.trans hsteps (.head ?_ (.one (stepR_endRangeFunc hend)))))⟩
    rw [← finish_atR_inRangeFunc l v]; exact step_leave_returned hleave
  · refine ⟨.panic ch, _, w₃, hq, .inRangeFunc l :: k, stepsIn_wide.2 (.head henter (Steps.trans hsteps (.one ?_)))⟩
    rw [← Frame.raise_atR]; exact step_leave_panicked hleave
end
theorem calls_of_wpX {f : FuncId} {fn : Func} {c : Code} {args : Array Value} {w : World} {R : Ending → World → Prop} {n : Nat}
    (hf : Tryz.prog.funcs[f]? = some fn) (hb : fn.body = some c)
    (h : wpX c (bodyPostM Fence.wide n Tryz.prog fn R) { tmps := args ++ Array.replicate (fn.ntmps - args.size) undef, defers := [] } w) : Calls Tryz.prog f args w R := by
  refine (callsIn_wide (n := n)).1 ⟨trivial, fun cs hr => ?_⟩
  let b : Frame := { (default : Frame) with fn := f, kind := .normal, roundOf := none }
  have henter : Frame.enter Tryz.prog f args .normal = b.atR { tmps := args ++ Array.replicate (fn.ntmps - args.size) undef, defers := [] } [.code c] := by
    simp [Frame.enter, Frame.atR, hf, hb, b]
  have hF : Fence.wide.fn f := trivial
  obtain ⟨e, a', w', hq, harr⟩ := h b [] cs rfl (by show (Tryz.prog.funcs[f]?).isSome = true; rw [hf]; rfl)
  rw [← henter] at harr
  cases e with
  | normal =>
    obtain ⟨e', w'', fr', hR, hs, hfn, hl⟩ := leaves_stepsInM a'.defers .returning w' { b.atR a' [] with mode := .returning } cs rfl rfl rfl hf rfl hF hr hq
    exact ⟨e', w'', fr', hR, ComesIn.of_steps (StepsIn.trans harr (.one (fenced_wide _ _) (stepR_end rfl))) hs, hfn, hl⟩
  | ret =>
    obtain ⟨todo, hs₀⟩ := harr.1 rfl
    obtain ⟨e', w'', fr', hR, hs, hfn, hl⟩ := leaves_stepsInM a'.defers .returning w' { b.atR a' todo with mode := .returning } cs rfl rfl rfl hf rfl hF hr hq
    exact ⟨e', w'', fr', hR, ComesIn.of_steps hs₀ hs, hfn, hl⟩
  | panic chain =>
    obtain ⟨todo, hs₀⟩ := harr
    obtain ⟨e', w'', fr', hR, hs, hfn, hl⟩ := leaves_stepsInM a'.defers (.panicking chain) w' { b.atR a' todo with mode := .panicking chain } cs rfl rfl rfl hf rfl hF hr hq
    exact ⟨e', w'', fr', hR, ComesIn.of_steps hs₀ hs, hfn, hl⟩
  | exit id => exact hq.elim
  | goto l => exact hq.elim
  | outgrown => exact ⟨.outgrown, w', b, hq, harr.resolve_left (by simp [b]), rfl, trivial⟩

/-- A round whose body ends, or panics. -/
theorem round_of_wpP {n l : Nat} {f : FuncId} {tmps : Array Value} {assign body : Code} {w : World} {R : Ending → World → Prop} (hf : (Tryz.prog.funcs[f]?).isSome = true)
    (h : assign.wpIn (Fence.wide.inRound l) n Tryz.prog (Exit.then (fun a₁ w₁ => ∃ w₂, (Instr.beginRound l).run Tryz.prog w₁ = .ok () w₂ ∧ body.wpIn (Fence.wide.inRound l) n Tryz.prog
        (fun e a' w' => (e = .normal ∧ ∃ v w3, (Instr.endRound l none).run Tryz.prog w' = .ok v w3 ∧ R (.returned v) w3) ∨ ∃ ch, e = .panic ch ∧ a'.defers = [] ∧ R (.panicked ch) w') a₁ w₂) (fun _ _ _ => False))
      { tmps := tmps, defers := [] } w) : RoundIn Fence.wide n Tryz.prog l f tmps assign body w R := by
  refine ⟨trivial, fun c cs hr => ?_⟩
  let b : Frame := { (default : Frame) with fn := f, kind := .normal, roundOf := some l }
  have hb0 : Frame.round l f tmps assign body .normal = b.atR { tmps := tmps, defers := [] } [.code assign, .beginRound, .code body] := by
    simp [Frame.round, Frame.atR, b]
  have hr' : (Fence.wide.inRound l).room ((c :: cs).length + 1 + n) := hr
  have hF' : (Fence.wide.inRound l).fn b.fn := trivial
  obtain ⟨e, a₁, w₁, hq, harr⟩ := h b [.beginRound, .code body] (c :: cs) rfl hF' hr'
  rw [← hb0] at harr
  cases e with
  | normal =>
    obtain ⟨w₂, hbr, hbody⟩ := hq
    have s1 : StepsIn (Machine.fenced Tryz.prog (Fence.wide.inRound l)) Tryz.prog (lone (b.atR a₁ [.beginRound, .code body]) (c :: cs) w₁) (lone (b.atR a₁ [.code body]) (c :: cs) w₂) :=
      .one (fenced_calm (fr := b.atR a₁ [.beginRound, .code body]) hF' hr' rfl) (stepR_beginRound rfl hbr)
    obtain ⟨e₂, a₂, w₃, hq₂, harr₂⟩ := hbody b [] (c :: cs) rfl hF' hr'
    rcases hq₂ with ⟨rfl, v, w₄, hend, hR⟩ | ⟨ch, rfl, hd, hR⟩
    · exact ⟨.returned v, w₄, hR, (StepsIn.trans harr s1).trans (StepsIn.trans harr₂ (.one (fenced_calm (fr := b.atR a₂ []) hF' hr' rfl) (stepR_round_end rfl rfl hend)))⟩
    · obtain ⟨todo, hs⟩ := harr₂
      obtain ⟨fn, hfn⟩ := Option.isSome_iff_exists.1 hf
      exact ⟨.panicked ch, w₃, hR, (StepsIn.trans harr s1).trans (StepsIn.trans hs (.one (fenced_wide _ _) (step_leave_panicked (fr := { b.atR a₂ todo with mode := .panicking ch }) ⟨rfl, hd, fn, hfn⟩)))⟩
  | exit id => exact hq.elim
  | goto t => exact hq.elim
  | ret => exact hq.elim
  | panic chain => exact hq.elim
  | outgrown => exact hq.elim

/-- No row of refs. -/
def NoRf (o : Obj) : Prop := ∀ cs fz, o ≠ .cells cs 65 fz
theorem noRf_s (cs : Array Value) (fz : Nat × Nat) : NoRf (.cells cs 9 fz) := fun _ _ e => by
  injection e with _ h _
  exact absurd h (by decide)
theorem noRf_n (cs : Array Value) (fz : Nat × Nat) : NoRf (.cells cs 3 fz) := fun _ _ e => by
  injection e with _ h _
  exact absurd h (by decide)

/-- What an iterator owes that turns blocks of its own, to rounds that may panic: where one does, that panic is passed on and nothing more is done. -/
def TellsP {α : Type} (own : Nat → Prop) (keep : Nat → Obj → Prop) (g : Nat) (lb : Array Value) (encs : α → Array Value) (xs : List α) (w : World) : Prop :=
  ∀ (l : Nat) (J : List α → World → Prop) (Z : World → Prop) (W : World), w.heap.size ≤ W.heap.size → KeptK keep w W → OwnBy (fun r => W.heap.size ≤ r ∨ own r) J →
    (∀ pre x W1, x ∈ xs → J pre W1 → pre.length < 4000000 → YieldAt Fence.wide 0 Tryz.prog l (encs x) W1 fun e W' => (e = .returned (.bool true) ∧ J (pre ++ [x]) W' ∧ KeepsOthers W1 W' ∧ KeptK (fun k o => keep k o ∨ (W.heap.size ≤ k ∧ NoRf o)) W1 W') ∨ (e = .panicked pnC ∧ Z W')) → J [] W →
    Calls Tryz.prog g (#[.func (.yield l) #[] #[]] ++ lb) W fun e W' => ((∃ v, e = .returned v) ∧ J xs W') ∨ (e = .panicked pnC ∧ Z W')

/-- Who ranges over such an iterator. -/
theorem range_allP {α : Type} {own : Nat → Prop} {keep : Nat → Obj → Prop} {g : Operand} {ps : Array Tmp} {assign body : Code} {Q : Exit → Act → World → Prop} {a : Act} {w w0 : World} {gf : Nat} {lb : Array Value}
    (hg : a.eval g = .func (.func gf) #[] lb) (eg : ∀ args w, (callFunc gf args).run Tryz.prog w = .ok (.enter gf args) w) {encs : α → Array Value} {xs : List α} (hT : TellsP own keep gf lb encs xs w0) (hown : ∀ r, own r → r < w.heap.size) (hkp : ∀ r o, keep r o → r < w0.heap.size) (hsw : w0.heap.size ≤ w.heap.size) (hkw : KeptK keep w0 w) (hps : ∀ x, (encs x).size = ps.size)
    (I : List α → World → Prop) (hI : OwnBy (fun r => w.heap.size ≤ r ∨ own r) I) (Z : World → Prop) (h0 : I [] w) (a₁ : α → Act)
    (hassign : ∀ (l : Nat) (x : α) (W : World) (K : Act → World → Prop), K (a₁ x) W →
      assign.wpIn (Fence.wide.inRound l) 1 Tryz.prog (Exit.then K (fun _ _ _ => False)) { tmps := (ps.zip (encs x)).foldl (fun t (p, v) => t.setIfInBounds p v) a.tmps, defers := [] } W)
    (hbody : ∀ (l : Nat) (pre : List α) (x : α) (W : World), x ∈ xs → I pre W → pre.length < 4000000 → body.wpIn (Fence.wide.inRound l) 1 Tryz.prog (fun e a' W' => (e = .normal ∧ KeepsOthers W W' ∧ KeptK (fun k o => keep k o ∨ (w.heap.size ≤ k ∧ NoRf o)) W W' ∧ I (pre ++ [x]) W') ∨ (e = .panic pnC ∧ a'.defers = [] ∧ KeepsOthers W W' ∧ Z W')) (a₁ x) W)
    (hdone : ∀ (D : Nat) (W : World), w.heap.size ≤ D → I xs W → W.heap[D]? = some (.deferred (some [])) → Q .normal { a with defers := { target := .collected D, args := #[] } :: a.defers } W)
    (hpan : ∀ (D : Nat) (W : World), w.heap.size ≤ D → Z W → W.heap[D]? = some (.deferred (some [])) → Q (.panic pnC) { a with defers := { target := .collected D, args := #[] } :: a.defers } W) :
    wpX (Code.rangeFunc g ps assign body) Q a w := by
  refine wpX_range fun fn hfn => ?_
  obtain ⟨rec, hrec⟩ : ∃ rec : LoopState → Loop, rec = fun st => { state := st, pending := none, fn, tmps := a.tmps, params := ps, assign, body, defers := w.heap.size } := ⟨_, rfl⟩
  obtain ⟨W1, hW1⟩ : ∃ W1, (w.alloc (.deferred (some []))).alloc (.loop (rec .ready)) = W1 := ⟨_, rfl⟩
  have hsz : W1.heap.size = w.heap.size + 2 := by rw [← hW1]; simp
  have hL1 : W1.heap[w.heap.size + 1]? = some (.loop (rec .ready)) := by
    rw [← hW1]; have := World.alloc_heap_new (w.alloc (.deferred (some []))) (.loop (rec .ready)); rwa [World.size_alloc] at this
  have hK1 : W1.heap[w.heap.size]? = some (.deferred (some [])) := by
    rw [← hW1]; exact (Below.heap_alloc _ _ _ (by simp)).trans (World.alloc_heap_new w _)
  have hI1 : I [] W1 := by rw [← hW1]; exact hI.alloc _ (hI.alloc _ h0)
  have hb1 : Below w.heap.size w W1 := by rw [← hW1]; exact below_box2 _ _
  have hkW : KeptK keep w0 W1 := hkw.trans (fun j o hj hp => (hb1.block j (Nat.lt_of_lt_of_le (hkp j o hp) hsw)).trans hj)
  refine ⟨w.heap.size + 1, [{ target := .collected w.heap.size, args := #[] }], W1, { target := .fn (.func gf) lb, args := #[.func (.yield (w.heap.size + 1)) #[] #[]] }, W1, gf,
    #[.func (.yield (w.heap.size + 1)) #[] #[]] ++ lb, W1, ?_, ?_, ?_, ?_⟩
  · rw [← hW1, hrec]; exact run_enterLoop_outer _ _ _ _ _
  · simp only [resolve, hg]
    simp [go_sem]
  · simp [invoke, go_sem, eg]
  refine (hT (w.heap.size + 1) (fun pre W => I pre W ∧ W.heap[w.heap.size + 1]? = some (.loop (rec .ready)) ∧ W.heap[w.heap.size]? = some (.deferred (some []))) (fun W => Z W ∧ W.heap[w.heap.size]? = some (.deferred (some []))) W1 (by omega) hkW ?_ ?_ ⟨hI1, hL1, hK1⟩).mono ?_
  · rintro s A C row ⟨hi, hl, hk⟩ hgr hrow
    have hne : ∀ j, j < w.heap.size + 2 → w.heap.size ≤ j → j < A.heap.size → C.heap[j]? = A.heap[j]? := fun j hj hj2 hjA => hgr.block j hjA (fun e => by
      rcases (hrow j e.symm).1 with q | q
      · omega
      · have := hown j q; omega)
    refine ⟨hI s A C row hi hgr (fun r e => ⟨by
      rcases (hrow r e).1 with q | q
      · exact .inl (by omega)
      · exact .inr q, (hrow r e).2⟩), (hne _ (by omega) (by omega) (lt_of_block hl)).trans hl, (hne _ (by omega) (by omega) (lt_of_block hk)).trans hk⟩
  · rintro pre x W hx ⟨hi, hl, hk⟩ hlen
    have hlt := lt_of_block hl
    have hy := run_yield (P := Tryz.prog) (args := encs x) hl (by rw [hrec]; exact hps x)
    rw [hrec] at hy
    refine ⟨fn, _, assign, body, hy, round_any (n := 1) (round_of_wpP hfn (hassign _ x W _ ⟨_, run_beginRound hl (by rw [hrec]), ?_⟩))⟩
    obtain ⟨Wb, hWb⟩ : ∃ Wb, W.putObj (w.heap.size + 1) (.loop (rec .busy)) = Wb := ⟨_, rfl⟩
    have eb : W.putObj (w.heap.size + 1) (.loop { rec .ready with state := .busy }) = Wb := by rw [← hWb, hrec]
    rw [eb]
    have hl2 : Wb.heap[w.heap.size + 1]? = some (.loop (rec .busy)) := by rw [← hWb]; exact World.putObj_heap_same hlt
    have hsb : Wb.heap.size = W.heap.size := by rw [← hWb]; simp
    have hob : ∀ k, k ≠ w.heap.size + 1 → Wb.heap[k]? = W.heap[k]? := fun k hk => by rw [← hWb]; exact World.putObj_heap_other hk
    have hib : I pre Wb := by rw [← hWb]; exact hI.putObj _ hi (.inl (by omega)) hl rfl
    have h2 : Wb.heap[w.heap.size]? = some (.deferred (some [])) := (hob _ (by omega)).trans hk
    refine wpIn_mono (hbody _ pre x _ hx hib hlen) ?_
    rintro e a3 W3 (⟨rfl, hk3, hs3, hi3⟩ | ⟨rfl, hd3, hk3, hz3⟩)
    · have hl3 := hk3.same _ _ hl2 rfl
      have hr := run_endRound (P := Tryz.prog) none hl3
      have ee : W3.putObj (w.heap.size + 1) (.loop { rec .busy with state := if (none : Option Code).isNone then .ready else .done, pending := none }) = W3.putObj (w.heap.size + 1) (.loop (rec .ready)) := by rw [hrec]; rfl
      rw [ee] at hr
      have hof : ∀ k, k ≠ w.heap.size + 1 → (W3.putObj (w.heap.size + 1) (.loop (rec .ready))).heap[k]? = W3.heap[k]? := fun k hk => World.putObj_heap_other hk
      refine .inl ⟨rfl, _, _, hr, .inl ⟨rfl, ⟨hI.putObj _ hi3 (.inl (by omega)) hl3 rfl, World.putObj_heap_same (lt_of_block hl3), ?_⟩, ⟨?_, ?_⟩, ?_⟩⟩
      · exact (hof _ (by omega)).trans (hk3.same _ _ h2 rfl)
      · have := hk3.size
        simp
        omega
      · intro k o hk' ho
        by_cases e : k = w.heap.size + 1
        · subst e
          rw [hl] at hk'
          cases hk'
          exact World.putObj_heap_same (lt_of_block hl3)
        · exact (hof k e).trans (hk3.same _ _ ((hob k e).trans hk') ho)
      · intro k o hko hk'
        have hne : k ≠ w.heap.size + 1 := by
          rcases hk' with q | q
          · have := hkp k o q; omega
          · have := q.1; omega
        refine (hof k hne).trans (hs3 k o ((hob k hne).trans hko) ?_)
        rcases hk' with q | q
        · exact .inl q
        · exact .inr ⟨by have := q.1; omega, q.2⟩
    · exact .inr ⟨_, rfl, hd3, .inr ⟨rfl, hz3, hk3.same _ _ h2 rfl⟩⟩
  · rintro e W2 (⟨⟨v, rfl⟩, hi, hl, hk⟩ | ⟨rfl, hz, hk⟩)
    · have hend := run_endLoop (P := Tryz.prog) hl (by rw [hrec]; simp)
      have hp : (rec .ready).pending = none := by rw [hrec]
      rw [hp] at hend
      exact .inl ⟨v, _, rfl, hend, hdone w.heap.size _ (Nat.le_refl _) (hI.putObj _ hi (.inl (by omega)) hl rfl) ((World.putObj_heap_other (by omega)).trans hk)⟩
    · exact .inr ⟨_, rfl, hpan w.heap.size _ (Nat.le_refl _) hz hk⟩

set_option maxRecDepth 100000 in
set_option maxHeartbeats 4000000 in
theorem split_tellsP (b0 b1 b2 : Nat) (c : UInt8) (t : List UInt8) (w0 : World) (ht : t.length ≤ 1048576) (h0 : w0.heap[b0]? = some (.cells #[.string (str t)] 9 (0, 0))) (h1 : w0.heap[b1]? = some (.cells #[.string ⟨#[c]⟩] 9 (0, 0))) (h2 : w0.heap[b2]? = some (.cells #[.int .i64 0] 3 (0, 0))) (h01 : b0 ≠ b1) (h02 : b0 ≠ b2) :
    TellsP (fun r => r = b0) (fun r o => (r = b0 ∨ r = b1 ∨ r = b2) ∧ NoRf o) 115 #[.pointer (some ⟨b1, 0, none⟩), .pointer (some ⟨b0, 0, none⟩), .pointer (some ⟨b2, 0, none⟩)] (fun s : List UInt8 => #[Value.string (str s)]) (cutL c t) w0 := by
  intro lp J Z W hsW hkW hJ hY hJ0
  have HY := show Hid (∀ pre x W1, x ∈ cutL c t → J pre W1 → pre.length < 4000000 → YieldAt Fence.wide 0 Tryz.prog lp #[Value.string (str x)] W1 fun e W' => (e = .returned (.bool true) ∧ J (pre ++ [x]) W' ∧ KeepsOthers W1 W' ∧ KeptK (fun k o => ((k = b0 ∨ k = b1 ∨ k = b2) ∧ NoRf o) ∨ (W.heap.size ≤ k ∧ NoRf o)) W1 W') ∨ (e = .panicked pnC ∧ Z W')) from hY
  have HJ : Hid (OwnBy (fun r => W.heap.size ≤ r ∨ r = b0) J) := hJ
  have HI0 : Hid (SpI W b0 b1 b2 c t J t []) := ⟨hkW b0 _ h0 ⟨.inl rfl, noRf_s _ _⟩, hkW b1 _ h1 ⟨.inr (.inl rfl), noRf_s _ _⟩, hkW b2 _ h2 ⟨.inr (.inr rfl), noRf_n _ _⟩, rfl, hJ0, by simp⟩
  have s1 : W.cell? ⟨b1, 0, none⟩ = some (.string ⟨#[c]⟩) := by unfold World.cell?; rw [HI0.out.sep]; rfl
  clear hY hJ hJ0 h0 h1 h2 hkW
  refine (callsIn_wide (n := 3)).1 ?_
  show CallsIn Fence.wide 3 Tryz.prog 115 #[.func (.yield lp) #[] #[], .pointer (some ⟨b1, 0, none⟩), .pointer (some ⟨b0, 0, none⟩), .pointer (some ⟨b2, 0, none⟩)] W _
  refine callsIn_of_wp Tryz.func115 rfl trivial ?_ rfl
  simp only [Tryz.ntmps115, List.size_toArray, List.length_cons, List.length_nil, Nat.reduceAdd, Nat.reduceSub, Array.replicate_succ, Array.replicate_zero, List.push_toArray, List.append_toArray, List.nil_append, List.cons_append]
  gi_wp2
  gi_loopw [7] (fun _ wr => Hid (∃ r pre, SpI wr b0 b1 b2 c t J r pre)) (fun _ wr => leftS b0 wr)
  case atStart => exact ⟨t, [], HI0.out⟩
  case round =>
    obtain ⟨r, pre, hS⟩ := (show Hid (∃ r pre, SpI wr b0 b1 b2 c t J r pre) from hrel).out
    have c0 : wr.cell? ⟨b0, 0, none⟩ = some (.string (str r)) := by unfold World.cell?; rw [hS.box]; rfl
    have c1 : wr.cell? ⟨b1, 0, none⟩ = some (.string ⟨#[c]⟩) := by unfold World.cell?; rw [hS.sep]; rfl
    have c2 : wr.cell? ⟨b2, 0, none⟩ = some (.int .i64 0) := by unfold World.cell?; rw [hS.sav]; rfl
    have hix := Tryz.strings_Index_one (str r) c wr
    have er : (str r).data.toList = r := by simp [str]
    rw [er, ← Lib.index_one] at hix
    have HS : Hid (SpI wr b0 b1 b2 c t J r pre) := hS
    have hfew := hS.few
    clear hS er
    by_cases hc : c ∈ r
    · obtain ⟨a, b, hab, ha⟩ := mem_first hc
      have hi : Lib.index r [c] = a.length := by
        have := index_at (tl := []) (r := b) ha
        rw [hab]
        simpa using this
      rw [hi] at hix
      have hlen : r.length = a.length + 1 + b.length := by rw [hab]; simp; omega
      have x1 : (str r).extract 0 a.length = str a := by rw [str_cut, hab]; simp
      have x2 : (str r).extract (a.length + 1) r.length = str b := by
        rw [str_cut, hab]
        simp
        rw [show a.length + (b.length + 1) - (a.length + 1) = b.length by omega, List.take_length]
      obtain ⟨fn, tmps, assign, body, hy, hR⟩ := HY.out _ a wr (by rw [HS.out.cut, hab, cutL_at ha]; simp) HS.out.inv (by omega)
      have hR' := round_any (m := 2) hR
      have hsz := size_str r
      have hw0 : IntKind.i64.wrap (a.length : Int) = (a.length : Int) := IntWalk.i64_in _ (by omega)
      have hw1 : IntKind.i64.wrap ((a.length : Int) + 1) = (a.length : Int) + 1 := IntWalk.i64_in _ (by omega)
      have hneg : ¬ (a.length : Int) < 0 := by omega
      have HCUT : Hid (cutL c t = (pre ++ [a]) ++ cutL c b) := by show _ = _; rw [HS.out.cut, hab, cutL_at ha]; simp
      have HX2 : Hid ((str r).extract (a.length + 1) r.length = str b) := x2
      have HLEN : Hid (r.length = a.length + 1 + b.length) := hlen
      have hal : a.length + 1 ≤ r.length := by omega
      clear hlen hi hab ha hc hR
      gi_wp2_with (first | (refine ⟨trivial, ?_⟩; gi_at_call 92; refine (callsIn_wide.2 hix).mono ?_; rintro e w' ⟨rfl, hw'⟩; have hw2 := hw'.symm; subst hw2))
      refine hR'.mono ?_
      rintro e W3 (⟨rfl, hJ3, hk3, hs3⟩ | ⟨rfl, hz3⟩)
      rotate_left 1
      · exact ⟨rfl, .inr ⟨rfl, hz3⟩⟩
      have d0 : W3.heap[b0]? = some (.cells #[.string (str r)] 9 (0, 0)) := hs3 b0 _ HS.out.box (.inl ⟨.inl rfl, noRf_s _ _⟩)
      have d1 : W3.heap[b1]? = some (.cells #[.string ⟨#[c]⟩] 9 (0, 0)) := hs3 b1 _ HS.out.sep (.inl ⟨.inr (.inl rfl), noRf_s _ _⟩)
      have d2 : W3.heap[b2]? = some (.cells #[.int .i64 0] 3 (0, 0)) := hs3 b2 _ HS.out.sav (.inl ⟨.inr (.inr rfl), noRf_n _ _⟩)
      have e0 : W3.cell? ⟨b0, 0, none⟩ = some (.string (str r)) := by unfold World.cell?; rw [d0]; rfl
      have e1 : W3.cell? ⟨b1, 0, none⟩ = some (.string ⟨#[c]⟩) := by unfold World.cell?; rw [d1]; rfl
      have g0 := Joins.unfrozen_of_block d0 0
      have HD0 : Hid (W3.heap[b0]? = some (.cells #[.string (str r)] 9 (0, 0))) := d0
      have HD1 : Hid (W3.heap[b1]? = some (.cells #[.string ⟨#[c]⟩] 9 (0, 0))) := d1
      have HD2 : Hid (W3.heap[b2]? = some (.cells #[.int .i64 0] 3 (0, 0))) := d2
      have HJ3 : Hid (J (pre ++ [a]) W3) := hJ3
      clear d0 d1 d2 hJ3 c0 c1 c2 hy hk3 hs3
      gi_wp2
      go_roundw
      case rel =>
        refine ⟨b, pre ++ [a], ?_, (Below.heap_setCell _ ⟨b0, 0, none⟩ _ b1 (Ne.symm h01)).trans HD1.out, (Below.heap_setCell _ ⟨b0, 0, none⟩ _ b2 (Ne.symm h02)).trans HD2.out, HCUT.out, HJ.out.setCell _ HJ3.out (.inr rfl) HD0.out, ?_⟩
        · have := Joins.block_setCell (i := 0) HD0.out (.string ((str r).extract (a.length + 1) r.length))
          rw [HX2.out] at this
          simpa [HX2.out] using this
        · have := HLEN.out; simp; omega
      case measure => rw [left_set b HD0.out, HS.out.left]; have := HLEN.out; omega
    · have hi : Lib.index r [c] = -1 := index_no hc
      rw [hi] at hix
      obtain ⟨fn, tmps, assign, body, hy, hR⟩ := HY.out _ r wr (by rw [HS.out.cut, cutL_one hc]; simp) HS.out.inv (by omega)
      have hR' := round_any (m := 2) hR
      have HCUT : Hid (cutL c t = pre ++ [r]) := by show _ = _; rw [HS.out.cut, cutL_one hc]
      clear hR hi hc
      gi_wp2_with (first | (refine ⟨trivial, ?_⟩; gi_at_call 92; refine (callsIn_wide.2 hix).mono ?_; rintro e w' ⟨rfl, hw'⟩; have hw2 := hw'.symm; subst hw2))
      refine hR'.mono ?_
      rintro e W3 (⟨rfl, hJ3, hk3, hs3⟩ | ⟨rfl, hz3⟩)
      rotate_left 1
      · exact ⟨rfl, .inr ⟨rfl, hz3⟩⟩
      gi_wp2
      go_end0
      exact .inl ⟨⟨_, rfl⟩, by rw [HCUT.out]; exact hJ3⟩

end Go.Proofs.YtciefdphjkjikaaGreatDoor
