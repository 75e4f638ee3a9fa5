/- The program's numbers written and joined. What RuleText answers: the specification's and the program's. -/
import Derived.Test.YtppfhepipadepaaGreatDoorJn2
import Derived.Test.YtppfhepipadepaaGreatDoorSh
import Derived.Stop.RegionWithIn
import Derived.Maps.AppendAt
import Derived.RangeFuncWrites
import Derived.Lib.AppendIntMem
import Derived.Lib.Join
import Derived.Test.YtppfhepipadepaaGreatDoorJn1
namespace Go.Proofs.YtppfhepipadepaaGreatDoor
open Go.RowKit Go.Shelf Go.Maps Go.WideMaps
attribute [local go_sem] Oper.semAt_some

/-- The library's table of powers, as the row lays it. -/
def Tb (w : World) : Prop := Lib.TabIs Tryz.prog w "internal/strconv.uint64pow10" .u64 Lib.pow10Tab
theorem Tryz.pow10At : (Tryz.prog.globalNamed "internal/strconv.uint64pow10").isSome = true := by kernel_rfl
theorem Tb.below {w w' : World} (h : Tb w) {B : Nat} (hb : Below B w w') (hB : w.heap.size ≤ B) : Tb w' := by
  obtain ⟨g, hg⟩ := Option.isSome_iff_exists.1 Tryz.pow10At
  exact Joins.tab_stays hg h hb hB

theorem writeNumber_any {k : Int} (h0 : 0 ≤ k) (h1 : k ≤ 999) (w : World) (hT : Tb w) : Calls Tryz.prog 97 #[.int .i64 k] w fun e w' => e = .returned (.string (str (dec k))) ∧ Below w.heap.size w w' := by
  have hf := Tryz.strconv_FormatInt_10 k (by omega) (by omega) w hT
  have e1 : (⟨(Lib.itoa k).toArray⟩ : ByteArray) = str (dec k) := by
    obtain ⟨n, rfl⟩ := Int.eq_ofNat_of_zero_le h0
    rw [Lib.itoa_nonneg]; rfl
  rw [e1] at hf
  obtain ⟨s, hs⟩ : ∃ s, s = str (dec k) := ⟨_, rfl⟩
  rw [← hs] at hf ⊢
  clear hT e1 hs
  go_enter Tryz.func97, Tryz.ntmps97
  go_wp2_with (go_at_call 115; refine hf.mono ?_; rintro e w' ⟨rfl, q, os, rfl⟩)
  go_ret
  exact ⟨rfl, Lib.below_grow _ _ (Nat.le_refl _) _ _⟩

abbrev Kx : Type := { k : Int // 0 ≤ k ∧ k ≤ 999 }

def pieces (l : List Int) : List Value := l.map fun k => .string (str (dec k))

/-- A step that appends, inside a fence, out of the append's own run. -/
theorem stepIn_append {F : Fence} {n : Nat} {P : Program} {w : World} {ops : Array Oper} {o : Oper} {a : Act} {K : Act → World → Prop} {Q : Exit → Act → World → Prop} {E : Prop} (hgd : o.guard = none) (s x : Operand) (t : TypeId)
    (hop : o.op = .call { callee := .builtin .append, args := #[s, x], argTypes := #[t, t] }) {v u v' : Value} {w' : World} (hs : a.eval s = v) (hx : a.eval x = u) (hrun : (Builtin.append_ #[t, t] o.type #[v, u]).run P w = .ok v' w') (h : K (a.put o.dst v') w') :
    if Region.wanted o (yielded ops a.tmps) = true then Oper.wpIn F n P o a w K Q else E := by
  rw [if_pos (by simp [Region.wanted, hgd])]
  unfold Oper.wpIn
  refine ⟨?_, ?_⟩
  · simp [Oper.about, hop, resolve, Target.leads, Sem.run_pure]
  · rw [Oper.semAt_plain F _ _ (by rw [hop]; intro c hc'; cases hc')]
    simp [execOp, hop, resolve, invoke, builtin, hs, hx, hrun, Result.andThen]
    exact h

theorem piece_more (pre : List Kx) (x : Kx) : pieces ((pre ++ [x]).map Subtype.val) = pieces (pre.map Subtype.val) ++ [.string (str (dec x.1))] := by simp [pieces]

/-- A piece more: what the append and the store leave. -/
theorem piece_added {W w2 : World} {B k : Nat} {v : Value} {xs : List Value} (s : ByteArray) (hv : Boxed W B 22 v) (hrow : W.ownsRow B 9 1 v k xs) (hb : Below W.heap.size W w2) (hB : B ≤ W.heap.size) (hk : k ≤ 100) :
    ∃ g cap w3, (Builtin.append_ #[22, 22] 22 #[v, .slice (some ⟨w2.heap.size, 0, none⟩) 1 1]).run Tryz.prog (w2.alloc (.cells #[.string s] 9)) = .ok (.slice (some ⟨g, 0, none⟩) (k + 1) cap) w3 ∧
      (w2.cell? ⟨B, 0, none⟩ = some v ∧ w3.cell? ⟨B, 0, none⟩ = some v ∧ w3.frozen? ⟨B, 0, none⟩ = false) ∧
      Hid (Boxed (w3.setCell ⟨B, 0, none⟩ (.slice (some ⟨g, 0, none⟩) (k + 1) cap)) B 22 (.slice (some ⟨g, 0, none⟩) (k + 1) cap) ∧ (w3.setCell ⟨B, 0, none⟩ (.slice (some ⟨g, 0, none⟩) (k + 1) cap)).ownsRow B 9 1 (.slice (some ⟨g, 0, none⟩) (k + 1) cap) (k + 1) (xs ++ [.string s]) ∧
        KeepsOthers W (w3.setCell ⟨B, 0, none⟩ (.slice (some ⟨g, 0, none⟩) (k + 1) cap)) ∧ Below B W (w3.setCell ⟨B, 0, none⟩ (.slice (some ⟨g, 0, none⟩) (k + 1) cap))) := by
  obtain ⟨i0, hi, hz0, hz1, hz2⟩ := info_parts Tryz.infoStr
  have hg2 := grown_of_below hb
  have hv2 : Boxed w2 B 22 v := hv.kept hg2 (fun e' => by cases e')
  have hrow2 : w2.ownsRow B 9 1 v k xs := hrow.kept hg2 (by cases Value.ownBlock v <;> simp)
  have hs2 := hb.size
  obtain ⟨v', w3, hrun, hown', hgrow, _⟩ := run_append_own (P := Tryz.prog) (w2.alloc (.cells #[.string s] 9)) B 22 22 9 i0 (.string ByteArray.empty) 1 16 Tryz.underlying22 hi hz0 hz1 hz2 rfl (by decide) v k _ (hrow2.alloc _) ⟨w2.heap.size, 0, none⟩ 1 1 [.string s] rfl (cell_one_new _ _ _) (by simp [Value.oneCell']) (by unfold maxLen; omega) (by omega) (by simp; omega)
  obtain ⟨g, cap, rfl⟩ := ownsRow_succ hown'
  obtain ⟨hv3, hv4, hr4, hk4, hb4⟩ := hv2.appended (by decide) hrow2 (by omega) (Nat.le_refl _) hown' hgrow
  have hk2 : KeepsOthers W w2 := ⟨hs2, fun j o hj _ => (hb.block j (Array.getElem?_eq_some_iff.1 hj).1).trans hj⟩
  exact ⟨g, cap, w3, hrun, ⟨hv2.cell, hv3.cell, hv3.frozen⟩, hv4, hr4, hk2.trans hk4, (hb.mono hB).trans hb4⟩

theorem inter_keys (k : Int) (t : List Int) : List.intercalate [44] (dec k :: t.map dec) = dec k ++ tailT t := by
  induction t generalizing k with
  | nil => simp [List.intercalate, tailT]
  | cons a t ih =>
    have h := ih a
    have e : List.intercalate [44] (dec k :: dec a :: t.map dec) = dec k ++ ([44] ++ List.intercalate [44] (dec a :: t.map dec)) := by
      simp [List.intercalate, List.intersperse]
    rw [List.map_cons, e, h]
    simp [tailT]

theorem join_keys (l : List Int) : Lib.join ((l.map fun k => str (dec k)).map (·.data.toList)) [44] = keysT l := by
  have h1 : (l.map fun k => str (dec k)).map (·.data.toList) = l.map dec := by
    rw [List.map_map]
    apply List.map_congr_left
    intro k _
    simp [str]
  rw [h1]
  unfold Lib.join
  cases l with
  | nil => rfl
  | cons k t => exact inter_keys k t

theorem keys_len {l : List Int} (h : l.length ≤ 3) (hk : ∀ k ∈ l, 0 ≤ k ∧ k ≤ 999) : (keysT l).length ≤ 100 := by
  have ht : ∀ t : List Int, (∀ k ∈ t, 0 ≤ k ∧ k ≤ 999) → (tailT t).length ≤ 11 * t.length := by
    intro t
    induction t with
    | nil => intro _; simp [tailT]
    | cons a t ih =>
      intro hk
      have h1 := dec_len (hk a (List.mem_cons_self ..)).2
      have h2 := ih fun k hk' => hk k (List.mem_cons_of_mem _ hk')
      simp [tailT]; omega
  cases l with
  | nil => simp [keysT]
  | cons a t =>
    have h1 := dec_len (hk a (List.mem_cons_self ..)).2
    have h2 := ht t fun k hk' => hk k (List.mem_cons_of_mem _ hk')
    simp at h
    simp [keysT]; omega

theorem join_pieces (v : Value) (W : World) {l : List Int} {n base : Nat} (hrow : W.ownsRow base 9 1 v n (pieces l)) (hn : n = l.length) (h3 : l.length ≤ 3) (hk : ∀ k ∈ l, 0 ≤ k ∧ k ≤ 999) :
    Calls Tryz.prog 93 #[v, .string ⟨#[44]⟩] W fun e w' => e = .returned (.string (str (keysT l))) ∧ Below W.heap.size W w' := by
  subst hn
  rcases id hrow.2 with ⟨rfl, h0⟩ | ⟨g, c, cur, rfl, _, _, h1, _⟩
  · obtain rfl : l = [] := List.length_eq_zero_iff.1 h0
    exact (Tryz.strings_Join_none none 0 ⟨#[44]⟩ W).mono fun e w' ⟨he, hw⟩ => ⟨he, hw ▸ Below.refl _ _⟩
  · have hJ := Tryz.strings_Join g 0 c (l.map fun k => str (dec k)) ⟨#[44]⟩ W (fun j x hj => by
      have hjl : j < l.length := by
        have := (List.getElem?_eq_some_iff.1 hj).1
        simpa using this
      rw [Nat.zero_add, hrow.cellAt j (by omega)]
      simp [pieces]
      simp at hj
      obtain ⟨a, ha, rfl⟩ := hj
      exact ⟨a, ha, rfl⟩) (hrow.lt g rfl).2 (by simp; omega) (by simpa using h1) (by
        show (Lib.join _ [44]).length ≤ _
        rw [join_keys]
        have := keys_len h3 hk
        omega)
    rw [List.length_map] at hJ
    refine hJ.mono fun e w' ⟨he, hb⟩ => ⟨?_, hb⟩
    rw [he]
    show Ending.returned (.string ⟨(Lib.join _ [44]).toArray⟩) = _
    rw [join_keys]
    rfl

set_option maxRecDepth 100000 in
set_option maxHeartbeats 4000000 in
theorem joinNumbers_any (Bs len cap : Nat) (a : Option Addr) (l : List Int) (w0 w : World) (hlen : len ≤ 3) (hk : ∀ k ∈ l, 0 ≤ k ∧ k ≤ 999) (hI : IAt w0 a len l) (hB : Below w0.heap.size w0 w) (hBl : Bs < w.heap.size) (hBs : w.cell? ⟨Bs, 0, none⟩ = some (.slice a len cap)) (hT : Tb w) :
    Calls Tryz.prog 141 #[.func (.func 164) #[] #[.pointer (some ⟨Bs, 0, none⟩)], .string ⟨#[44]⟩] w fun e w' => e = .returned (.string (str (keysT l))) ∧ Below w.heap.size w w' := by
  obtain ⟨i0, hi, hz0, hz1, hz2⟩ := info_parts Tryz.infoStr
  obtain ⟨zs, hz⟩ : ∃ zs : List Kx, zs.map Subtype.val = l := by
    clear hI
    induction l with
    | nil => exact ⟨[], rfl⟩
    | cons k t ih =>
      obtain ⟨zs, e⟩ := ih fun j hj => hk j (List.mem_cons_of_mem _ hj)
      exact ⟨⟨k, hk k (List.mem_cons_self ..)⟩ :: zs, by rw [List.map_cons, e]⟩
  obtain ⟨s0, hs0⟩ : ∃ s, s = str (keysT l) := ⟨_, rfl⟩
  rw [← hs0]
  have HS0 : Hid (s0 = str (keysT l)) := hs0
  clear hs0
  refine (callsIn_wide (n := 3)).1 ?_
  refine callsIn_of_wp_marks Tryz.func141 rfl trivial ?_ rfl
  simp only [Tryz.ntmps141, List.size_toArray, List.length_cons, List.length_nil, Nat.reduceAdd, Nat.reduceSub, Array.replicate_succ, Array.replicate_zero, List.push_toArray, List.append_toArray, List.nil_append, List.cons_append]
  gi_wp2
  have bO := Boxed.new w 22 (.slice none 0 0)
  have hB0 : Below w.heap.size w (w.alloc (.cells #[.slice none 0 0] 22)) := below_box _
  have hsz := hB.size
  refine wpIn_rangeFunc_ownG rfl (by omega) (gf := 164) (lb := #[.pointer (some ⟨Bs, 0, none⟩)]) rfl trivial (enters_of Tryz.func164 (by kernel_rfl) rfl)
    (each_stops (fun x : Kx => x.1) Fence.wide (3 - 1) trivial rfl (by omega) Bs len cap a zs w0 _ (by omega) (by rw [hz]; exact hI) (hB.trans (hB0.mono hsz)) (by simp; omega) ((hB0.cell (p := ⟨Bs, 0, none⟩) hBl).trans hBs)) belowK_t (belowK_b (by simp; omega)) (Below.refl _ _) (fun _ => rfl)
    (fun (pre : List Kx) W => (∃ v, Boxed W w.heap.size 22 v ∧ W.ownsRow w.heap.size 9 1 v pre.length (pieces (pre.map Subtype.val)) ∧ True) ∧ Below w.heap.size w W)
    (fun _ _ _ => False)
    (OwnFrom.and (Own.from (holdsRow_own w.heap.size w.heap.size 22 9 1 (fun (pre : List Kx) => pre.length) (fun pre => pieces (pre.map Subtype.val)) (fun _ _ => True)) _) (ownFrom_below (Nat.le_refl _) (by simp)))
    (fun _ _ _ _ _ hs _ _ => hs)
    ⟨⟨_, bO, World.ownsRow_nil _ _ _ _, trivial⟩, hB0⟩
    (fun x => { tmps := #[.func (.func 164) #[] #[.pointer (some ⟨Bs, 0, none⟩)], .string ⟨#[44]⟩, undef, undef, .string ⟨#[]⟩, .pointer (some ⟨w.heap.size, 0, none⟩), .int .i64 x.1, .func (.func 164) #[] #[.pointer (some ⟨Bs, 0, none⟩)], .int .i64 x.1, undef, undef, undef, undef, undef, undef, undef, undef], defers := [] }) ?assign ?body ?done ?stop
  case assign =>
    intro l x W K hK
    gi_wp2
    exact hK
  case body =>
    rintro lp pre ⟨x, hx⟩ W ⟨⟨v, hv, hrow, _⟩, hBB⟩ hlt
    have hc := hv.cell
    have hpl : pre.length ≤ 100 := by omega
    obtain ⟨s, hs⟩ : ∃ s, s = str (dec x) := ⟨_, rfl⟩
    have hwn := writeNumber_any hx.1 hx.2 W.drew ((hT.below hBB (Nat.le_refl _)).below (Below.refl _ _).drew (Nat.le_refl _))
    rw [← hs] at hwn
    have HS : Hid (s = str (dec x)) := hs
    clear hs
    gi_wp2
    refine wpIn_region_any (by kernel_rfl) ?_
    change wpAnyIn _ _ _ _ _ _ _ _ _ (World.drew _)
    refine wpAnyIn_ready (rs := [0, 1]) (by kernel_rfl) (by simp) (AllReadyIn.cons rfl (fun K hK => ?_) (AllReadyIn.cons rfl (fun K hK => ?_) AllReadyIn.nil))
    · go_simp
      refine hK _ _ ?_
      clear hK K
      refine wpAnyIn_ready (rs := [1]) (by kernel_rfl) (by simp) (AllReadyIn.cons rfl (fun K hK => ?_) AllReadyIn.nil)
      go_simp
      refine hK _ _ ?_
      clear hK K
      refine wpAnyIn_ready (rs := [2]) (by kernel_rfl) (by simp) (AllReadyIn.cons rfl (fun K hK => ?_) AllReadyIn.nil)
      go_simp
      refine ⟨trivial, ?_⟩
      refine (CallsIn.inRound lp (callsIn_wide.2 hwn)).mono ?_
      rintro e w2 ⟨rfl, hb2⟩
      obtain ⟨g, cap', w3, hrun, ⟨hc2, hc3, hf3⟩, HP⟩ := piece_added s hv hrow ((Below.refl _ _).drew.trans hb2) hBB.size hpl
      have hc4 : ∀ o, (w2.alloc o).cell? ⟨w.heap.size, 0, none⟩ = some v := fun o => kept1 o hc2
      go_simp
      refine hK _ _ ?_
      clear hK K
      refine wpAnyIn_ready (rs := [3]) (by kernel_rfl) (by simp) (AllReadyIn.cons rfl (fun K hK => ?_) AllReadyIn.nil)
      go_simp
      refine hK _ _ ?_
      clear hK K
      refine wpAnyIn_ready (rs := [4]) (by kernel_rfl) (by simp) (AllReadyIn.cons rfl (fun K hK => ?_) AllReadyIn.nil)
      refine stepIn_append (v := v) (u := .slice (some ⟨w2.heap.size, 0, none⟩) 1 1) rfl (.tmp 9) (.tmp 12) 22 rfl rfl rfl hrun ?_
      refine hK _ _ ?_
      clear hK K
      refine wpAnyIn_ready (rs := [5]) (by kernel_rfl) (by simp) (AllReadyIn.cons rfl (fun K hK => ?_) AllReadyIn.nil)
      go_simp
      refine hK _ _ ?_
      clear hK K
      refine wpAnyIn_done (by kernel_rfl) ?_ _
      gi_wp2
      obtain ⟨e1, e2, e3, e4⟩ := HP.out
      exact ⟨e3.from _, e4.mono hsz, ⟨_, e1, by rw [piece_more, ← HS.out, List.length_append]; exact e2, trivial⟩, hBB.trans e4⟩
    · go_simp
      refine hK _ _ ?_
      clear hK K
      refine wpAnyIn_ready (rs := [0, 2]) (by kernel_rfl) (by simp) (AllReadyIn.cons rfl (fun K hK => ?_) (AllReadyIn.cons rfl (fun K hK => ?_) AllReadyIn.nil))
      · go_simp
        refine hK _ _ ?_
        clear hK K
        refine wpAnyIn_ready (rs := [2]) (by kernel_rfl) (by simp) (AllReadyIn.cons rfl (fun K hK => ?_) AllReadyIn.nil)
        go_simp
        refine ⟨trivial, ?_⟩
        refine (CallsIn.inRound lp (callsIn_wide.2 hwn)).mono ?_
        rintro e w2 ⟨rfl, hb2⟩
        obtain ⟨g, cap', w3, hrun, ⟨hc2, hc3, hf3⟩, HP⟩ := piece_added s hv hrow ((Below.refl _ _).drew.trans hb2) hBB.size hpl
        have hc4 : ∀ o, (w2.alloc o).cell? ⟨w.heap.size, 0, none⟩ = some v := fun o => kept1 o hc2
        go_simp
        refine hK _ _ ?_
        clear hK K
        refine wpAnyIn_ready (rs := [3]) (by kernel_rfl) (by simp) (AllReadyIn.cons rfl (fun K hK => ?_) AllReadyIn.nil)
        go_simp
        refine hK _ _ ?_
        clear hK K
        refine wpAnyIn_ready (rs := [4]) (by kernel_rfl) (by simp) (AllReadyIn.cons rfl (fun K hK => ?_) AllReadyIn.nil)
        refine stepIn_append (v := v) (u := .slice (some ⟨w2.heap.size, 0, none⟩) 1 1) rfl (.tmp 9) (.tmp 12) 22 rfl rfl rfl hrun ?_
        refine hK _ _ ?_
        clear hK K
        refine wpAnyIn_ready (rs := [5]) (by kernel_rfl) (by simp) (AllReadyIn.cons rfl (fun K hK => ?_) AllReadyIn.nil)
        go_simp
        refine hK _ _ ?_
        clear hK K
        refine wpAnyIn_done (by kernel_rfl) ?_ _
        gi_wp2
        obtain ⟨e1, e2, e3, e4⟩ := HP.out
        exact ⟨e3.from _, e4.mono hsz, ⟨_, e1, by rw [piece_more, ← HS.out, List.length_append]; exact e2, trivial⟩, hBB.trans e4⟩
      · go_simp
        refine ⟨trivial, ?_⟩
        refine (CallsIn.inRound lp (callsIn_wide.2 hwn)).mono ?_
        rintro e w2 ⟨rfl, hb2⟩
        obtain ⟨g, cap', w3, hrun, ⟨hc2, hc3, hf3⟩, HP⟩ := piece_added s hv hrow ((Below.refl _ _).drew.trans hb2) hBB.size hpl
        have hc4 : ∀ o, (w2.alloc o).cell? ⟨w.heap.size, 0, none⟩ = some v := fun o => kept1 o hc2
        go_simp
        refine hK _ _ ?_
        clear hK K
        refine wpAnyIn_ready (rs := [0, 3]) (by kernel_rfl) (by simp) (AllReadyIn.cons rfl (fun K hK => ?_) (AllReadyIn.cons rfl (fun K hK => ?_) AllReadyIn.nil))
        · go_simp
          refine hK _ _ ?_
          clear hK K
          refine wpAnyIn_ready (rs := [3]) (by kernel_rfl) (by simp) (AllReadyIn.cons rfl (fun K hK => ?_) AllReadyIn.nil)
          go_simp
          refine hK _ _ ?_
          clear hK K
          refine wpAnyIn_ready (rs := [4]) (by kernel_rfl) (by simp) (AllReadyIn.cons rfl (fun K hK => ?_) AllReadyIn.nil)
          refine stepIn_append (v := v) (u := .slice (some ⟨w2.heap.size, 0, none⟩) 1 1) rfl (.tmp 9) (.tmp 12) 22 rfl rfl rfl hrun ?_
          refine hK _ _ ?_
          clear hK K
          refine wpAnyIn_ready (rs := [5]) (by kernel_rfl) (by simp) (AllReadyIn.cons rfl (fun K hK => ?_) AllReadyIn.nil)
          go_simp
          refine hK _ _ ?_
          clear hK K
          refine wpAnyIn_done (by kernel_rfl) ?_ _
          gi_wp2
          obtain ⟨e1, e2, e3, e4⟩ := HP.out
          exact ⟨e3.from _, e4.mono hsz, ⟨_, e1, by rw [piece_more, ← HS.out, List.length_append]; exact e2, trivial⟩, hBB.trans e4⟩
        · go_simp
          refine hK _ _ ?_
          clear hK K
          refine wpAnyIn_ready (rs := [0]) (by kernel_rfl) (by simp) (AllReadyIn.cons rfl (fun K hK => ?_) AllReadyIn.nil)
          go_simp
          refine hK _ _ ?_
          clear hK K
          refine wpAnyIn_ready (rs := [4]) (by kernel_rfl) (by simp) (AllReadyIn.cons rfl (fun K hK => ?_) AllReadyIn.nil)
          refine stepIn_append (v := v) (u := .slice (some ⟨w2.heap.size, 0, none⟩) 1 1) rfl (.tmp 9) (.tmp 12) 22 rfl rfl rfl hrun ?_
          refine hK _ _ ?_
          clear hK K
          refine wpAnyIn_ready (rs := [5]) (by kernel_rfl) (by simp) (AllReadyIn.cons rfl (fun K hK => ?_) AllReadyIn.nil)
          go_simp
          refine hK _ _ ?_
          clear hK K
          refine wpAnyIn_done (by kernel_rfl) ?_ _
          gi_wp2
          obtain ⟨e1, e2, e3, e4⟩ := HP.out
          exact ⟨e3.from _, e4.mono hsz, ⟨_, e1, by rw [piece_more, ← HS.out, List.length_append]; exact e2, trivial⟩, hBB.trans e4⟩
  case done =>
    rintro D ys W hD rfl ⟨⟨v, hv, hrow, _⟩, hBB⟩ hK
    have hc := hv.cell
    rw [hz] at hrow
    have hj := join_pieces v W hrow (by rw [← hz]; simp) (by rw [hI.1]; exact hlen) hk
    have hln : (ys.map Subtype.val).length = ys.length := by simp
    rw [← HS0.out] at hj
    gi_wp2
    refine ⟨trivial, (callsIn_wide.2 hj).mono ?_⟩
    rintro e w2 ⟨rfl, hb2⟩
    have hK2 := (hb2.block D (lt_of_block hK)).trans hK
    gi_wp2
    refine ⟨by simp, .inl ⟨_, _, rfl, run_takeDeferred hK2, ?_⟩⟩
    exact ⟨_, results_tmp rfl _ _ _, rfl, (hBB.trans (hb2.mono hBB.size)).trans (belowK_b (w := w) (Nat.le_refl _) w2 D _ _ (by simp at hD; omega) hK2 rfl rfl)⟩
  case stop =>
    rintro D c pre W _ _ h _
    exact h.elim

end Go.Proofs.YtppfhepipadepaaGreatDoor

namespace Go.Proofs.YtppfhepipadepaaGreatDoor
open Go.RowKit Go.Shelf Go.Maps Go.WideMaps

theorem ruleR_zero {l : List Int} {x y : Int} {n : Nat} (hn : l.length = n) (h : ruleR l x y = 0) : (1 ≤ n ∧ n ≤ 3) ∧ (1 ≤ x ∧ x ≤ 3) ∧ (0 ≤ y ∧ y ≤ 999) ∧ ∀ k ∈ l, 1 ≤ k ∧ k ≤ 999 := by
  unfold ruleR at h
  by_cases h1 : inB l.length 1 3 = false
  · rw [if_pos h1] at h; cases h
  rw [if_neg h1] at h
  by_cases h2 : allK l = false ∨ inB x 1 l.length = false ∨ inB y 0 999 = false
  · rw [if_pos h2] at h; cases h
  have a1 := inB_true.1 (show inB l.length 1 3 = true by simpa using h1)
  have a2 : allK l = true := by cases e : allK l; exact absurd (.inl e) h2; rfl
  have a3 := inB_true.1 (show inB x 1 l.length = true by cases e : inB x 1 l.length; exact absurd (.inr (.inl e)) h2; rfl)
  have a4 := inB_true.1 (show inB y 0 999 = true by cases e : inB y 0 999; exact absurd (.inr (.inr e)) h2; rfl)
  refine ⟨by omega, by omega, a4, fun k hk => ?_⟩
  unfold allK at a2
  exact inB_true.1 (List.all_eq_true.1 a2 k hk)

def rtR (l : List Int) (x y : Int) : Int × List UInt8 := if ruleR l x y ≠ 0 then (ruleR l x y, []) else (0, rtxR l x y)

set_option maxRecDepth 20000 in
set_option maxHeartbeats 2000000 in
theorem iRuleText_any (n cap : Nat) (a : Option Addr) (l : List Int) (x y : Int) (w : World) (hl : n ≤ 1048576) (hI : IAt w a n l) (hTb : Tb w) :
    Calls Tryz.prog 120 #[.agg #[.slice a n cap, .int .i64 x, .int .i64 y]] w fun e w' => e = .returned (.agg #[.int .i64 (rtR l x y).1, .string (str (rtR l x y).2)]) ∧ Below w.heap.size w w' := by
  have hbx : Below w.heap.size w ((w.alloc (.cells #[.slice a n cap, .int .i64 x, .int .i64 y] 95)).alloc (.cells #[.int .i64 0, .string ByteArray.empty] 46)) := below_box2 _ _
  have T0 := show Hid (((w.alloc (.cells #[.slice a n cap, .int .i64 x, .int .i64 y] 95)).alloc (.cells #[.int .i64 0, .string ByteArray.empty] 46)).heap[w.heap.size]? = some (.cells #[.slice a n cap, .int .i64 x, .int .i64 y] 95 (0, 0))) from block_at2
  have T1 := show Hid (((w.alloc (.cells #[.slice a n cap, .int .i64 x, .int .i64 y] 95)).alloc (.cells #[.int .i64 0, .string ByteArray.empty] 46)).heap[w.heap.size + 1]? = some (.cells #[.int .i64 0, .string ByteArray.empty] 46 (0, 0))) from heap_alloc_at _ _ _ (by simp)
  have hF := iRuleFault_any n cap a l x y ((w.alloc (.cells #[.slice a n cap, .int .i64 x, .int .i64 y] 95)).alloc (.cells #[.int .i64 0, .string ByteArray.empty] 46)) hl (hI.below hbx (Nat.le_refl _))
  have HBX : Hid (Below w.heap.size w ((w.alloc (.cells #[.slice a n cap, .int .i64 x, .int .i64 y] 95)).alloc (.cells #[.int .i64 0, .string ByteArray.empty] 46))) := hbx
  have HI : Hid (IAt w a n l) := hI
  have HN : Hid (l.length = n) := hI.1
  have HTB : Hid (Tb w) := hTb
  obtain ⟨cd, hcd⟩ : ∃ c, c = ruleR l x y := ⟨_, rfl⟩
  rw [← hcd] at hF
  clear hbx hI hTb
  by_cases hz : cd = 0
  · subst hz
    have hr : rtR l x y = (0, rtxR l x y) := by unfold rtR; rw [← hcd, if_neg (by simp)]
    rw [hr]
    obtain ⟨b1, b2, b3, b4⟩ := ruleR_zero HN.out hcd.symm
    have hkk : ∀ k ∈ l, 0 ≤ k ∧ k ≤ 999 := fun k hk => by have := b4 k hk; omega
    have hl3 : l.length ≤ 3 := by rw [HN.out]; exact b1.2
    obtain ⟨dx, hdx⟩ : ∃ o, o = dec x := ⟨_, rfl⟩
    obtain ⟨dy, hdy⟩ : ∃ o, o = dec y := ⟨_, rfl⟩
    obtain ⟨ks, hks⟩ : ∃ o, o = keysT l := ⟨_, rfl⟩
    have hlx : dx.length ≤ 10 := by rw [hdx]; exact dec_len (by omega)
    have hly : dy.length ≤ 10 := by rw [hdy]; exact dec_len b3.2
    have hlk : ks.length ≤ 100 := by rw [hks]; exact keys_len hl3 hkk
    have HWX : Hid (∀ v, Below w.heap.size w v → Calls Tryz.prog 97 #[.int .i64 x] v fun e w' => e = .returned (.string (str dx)) ∧ Below v.heap.size v w') := fun v hv => by rw [hdx]; exact writeNumber_any (by omega) (by omega) v (HTB.out.below hv (Nat.le_refl _))
    have HWY : Hid (∀ v, Below w.heap.size w v → Calls Tryz.prog 97 #[.int .i64 y] v fun e w' => e = .returned (.string (str dy)) ∧ Below v.heap.size v w') := fun v hv => by rw [hdy]; exact writeNumber_any b3.1 b3.2 v (HTB.out.below hv (Nat.le_refl _))
    have HJN : Hid (∀ v, Below w.heap.size w v → Calls Tryz.prog 141 #[.func (.func 164) #[] #[.pointer (some ⟨v.heap.size, 0, none⟩)], .string ⟨#[44]⟩] (v.alloc (.cells #[.slice a n cap, .int .i64 x, .int .i64 y] 95)) fun e w' => e = .returned (.string (str ks)) ∧ Below v.heap.size v w') := fun v hv => by
      rw [hks]
      have hb := below_box (w := v) (.cells #[.slice a n cap, .int .i64 x, .int .i64 y] 95)
      have hbb := hv.trans (hb.mono hv.size)
      exact (joinNumbers_any v.heap.size n cap a l w _ b1.2 hkk HI.out hbb (by simp) (cells3 (heap_alloc_new v _)).1 (HTB.out.below hbb (Nat.le_refl _))).mono fun e w' ⟨e1, e2⟩ => ⟨e1, hb.trans (e2.mono (by simp))⟩
    have hof : ∀ q : List UInt8, str q ++ ⟨#[32, 111, 102, 32]⟩ = str (q ++ [32, 111, 102, 32]) := fun q => str_append q _
    have haf : ∀ q : List UInt8, (⟨#[32, 97, 102, 116, 101, 114, 32]⟩ : ByteArray) ++ str q = str (32 :: 97 :: 102 :: 116 :: 101 :: 114 :: 32 :: q) := fun q => str_append [32, 97, 102, 116, 101, 114, 32] q
    have happ : ∀ q r : List UInt8, str q ++ str r = str (q ++ r) := str_append
    have hss : ∀ q : List UInt8, (str q).size = q.length := fun _ => rfl
    have hz1 : ¬ 9223372036854775807 < dx.length + 4 := by omega
    have hz2 : ¬ 9223372036854775807 < dx.length + 4 + ks.length := by omega
    obtain ⟨rt, hrt⟩ : ∃ r, r = rtxR l x y := ⟨_, rfl⟩
    have HRT : Hid (rt = dx ++ [32, 111, 102, 32] ++ ks ++ (if y = 0 then [] else [32, 97, 102, 116, 101, 114, 32] ++ dy)) := by show _ = _; rw [hrt, hdx, hks, hdy]; rfl
    simp only
    rw [← hrt]
    clear hr hcd hdx hdy hks hrt b1 b2 b3 b4 hkk hl3
    go_enter Tryz.func120, Tryz.ntmps120
    go_wp2_with (first
      | (go_at_call 130; refine hF.mono ?_; clear hF; rintro e w2 ⟨rfl, hb2⟩; have HBW : Hid (Below w.heap.size w w2) := HBX.out.trans (hb2.mono (by simp; omega)); have HT2 := keepb T1.out hb2; have HP2 := keepb T0.out hb2; obtain ⟨p0, p1, p2⟩ := cells3 HP2.out; clear hb2))
    have hPl := lt_of_block HP2.out
    have hwx := HWX.out w2.drew (HBW.out.trans ((Below.refl _ _).drew.mono HBW.out.size))
    go_region_held3 (fun w' => w'.cell? ⟨w.heap.size, 0, none⟩ = some (.slice a n cap) ∧ w'.cell? ⟨w.heap.size, 1, none⟩ = some (.int .i64 x) ∧ w'.cell? ⟨w.heap.size, 2, none⟩ = some (.int .i64 y)) (go_keep)
      (first
        | (go_at_call 97; refine hwx.mono ?_; clear hwx; rintro e w3 ⟨rfl, hb3⟩; have HB3 : Hid (Below w2.heap.size w2 w3) := (Below.refl _ _).drew.trans hb3; have HB3w : Hid (Below w.heap.size w w3) := HBW.out.trans (HB3.out.mono HBW.out.size); obtain ⟨z0, z1, z2⟩ := cells3 (keepb HP2.out HB3.out).out; have hl3 := lt_of_block (keepb HP2.out HB3.out).out; have hjn := HJN.out w3 HB3w.out; clear hb3)
        | (go_at_call 142; refine (eachKey_any _ _ _ _ _ _).mono ?_; rintro e w4 ⟨rfl, hw4⟩; rw [← hw4] at hjn; have hb4 : Below w3.heap.size w3 w4 := (by rw [hw4]; exact below_box _); clear hw4; obtain ⟨y0, y1, y2⟩ := cells3 (keepb (keepb HP2.out HB3.out).out hb4).out)
        | (go_at_call 141; refine hjn.mono ?_; clear hjn; rintro e w5 ⟨rfl, hb5⟩; have HB5w : Hid (Below w.heap.size w w5) := HB3w.out.trans (hb5.mono HB3w.out.size); have HP5 := keepb (keepb HP2.out HB3.out).out hb5; have HT5 := keepb (keepb HT2.out HB3.out).out hb5; obtain ⟨u0, u1, u2⟩ := cells3 HP5.out))
    obtain ⟨o1, ho1⟩ : ∃ o, o = dx ++ 32 :: 111 :: 102 :: 32 :: ks := ⟨_, rfl⟩
    have hlo : o1.length ≤ 114 := by rw [ho1]; simp; omega
    have HRT2 : Hid (rt = o1 ++ (if y = 0 then [] else [32, 97, 102, 116, 101, 114, 32] ++ dy)) := by show _ = _; rw [HRT.out, ho1]; simp
    rw [← ho1]
    clear ho1 p0 p1 p2 z0 z1 z2 y0 y1 y2 hb4 hb5 HRT hz1 hz2 hof HJN HWX
    have hwy := HWY.out w5 HB5w.out
    obtain ⟨q0, q1, q2, q3, HR5⟩ := res_cells HT5.out (Below.refl _ w5) (lt_of_block HT5.out)
    by_cases hy0 : y = 0
    · subst hy0
      obtain rfl : rt = o1 := by rw [HRT2.out]; simp
      go_wp2
      obtain ⟨s0, s1, s2⟩ := two_set HR5.out (.int .i64 0) (.string (str rt))
      exact bodyPost_ret (v := .agg #[.int .i64 0, .string (str rt)]) (by simp [results, Tryz.results120, go_sem, s0, s1]) rfl ⟨rfl, below_res HB5w.out _ _⟩
    · have hyb : (y == 0) = false := by simpa using hy0
      have hz1 : ¬ 9223372036854775807 < 7 + dy.length := by omega
      have hz3 : ¬ 9223372036854775807 < dy.length + 7 := by omega
      have hz2 : ¬ 9223372036854775807 < o1.length + (dy.length + 7) := by omega
      have hz4 : ¬ 9223372036854775807 < o1.length + (7 + dy.length) := by omega
      have happ2 : str o1 ++ str (32 :: 97 :: 102 :: 116 :: 101 :: 114 :: 32 :: dy) = str rt := by rw [str_append, HRT2.out, if_neg hy0]; rfl
      clear q0 q1 q2 q3 happ HRT2
      go_wp2_with (go_at_call 97; refine hwy.mono ?_; rintro e w6 ⟨rfl, hb6⟩; obtain ⟨q0, q1, q2, q3, HR6⟩ := res_cells HT5.out hb6 (lt_of_block HT5.out))
      obtain ⟨s0, s1, s2⟩ := two_set HR6.out (.int .i64 0) (.string (str rt))
      exact bodyPost_ret (v := .agg #[.int .i64 0, .string (str rt)]) (by simp [results, Tryz.results120, go_sem, s0, s1]) rfl ⟨rfl, below_res (HB5w.out.trans (hb6.mono HB5w.out.size)) _ _⟩
  · have hr : rtR l x y = (cd, []) := by unfold rtR; rw [← hcd, if_pos hz]
    rw [hr]
    clear hr hcd
    go_enter Tryz.func120, Tryz.ntmps120
    go_wp2_with (first
      | (go_at_call 130; refine hF.mono ?_; rintro e w2 ⟨rfl, hb2⟩; obtain ⟨q0, q1, q2, q3, HR⟩ := res_cells T1.out hb2 (by simp); have HBW : Hid (Below w.heap.size w w2) := HBX.out.trans (hb2.mono (by simp; omega)); clear hb2))
    obtain ⟨s0, s1, s2⟩ := two_set HR.out (.int .i64 cd) (.string ⟨#[]⟩)
    exact bodyPost_ret (v := .agg #[.int .i64 cd, .string ⟨#[]⟩]) (by simp [results, Tryz.results120, go_sem, s0, s1]) rfl ⟨rfl, below_res HBW.out _ _⟩

end Go.Proofs.YtppfhepipadepaaGreatDoor
