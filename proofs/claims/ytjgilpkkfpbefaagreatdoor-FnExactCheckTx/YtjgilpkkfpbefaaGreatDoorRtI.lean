/- The program's numbers written and joined. -/
import Derived.Test.YtjgilpkkfpbefaaGreatDoorRtT
import Derived.Test.YtjgilpkkfpbefaaGreatDoorSh
import Derived.Stop.RegionWithIn
import Derived.Maps.AppendAt
import Derived.RangeFuncWrites
import Derived.Lib.AppendIntMem
import Derived.Lib.Join
namespace Go.Proofs.YtjgilpkkfpbefaaGreatDoor
open Go.RowKit Go.Shelf Go.Maps Go.WideMaps
attribute [local go_sem] Oper.semAt_some

/-- The library's table of powers, as the row lays it. -/
def Tb (w : World) : Prop := Lib.TabIs Tryz.prog w "internal/strconv.uint64pow10" .u64 Lib.pow10Tab
theorem Tryz.pow10At : (Tryz.prog.globalNamed "internal/strconv.uint64pow10").isSome = true := by kernel_rfl
theorem Tb.below {w w' : World} (h : Tb w) {B : Nat} (hb : Below B w w') (hB : w.heap.size ≤ B) : Tb w' := by
  obtain ⟨g, hg⟩ := Option.isSome_iff_exists.1 Tryz.pow10At
  exact Joins.tab_stays hg h hb hB

theorem writeNumber_any {k : Int} (h0 : 0 ≤ k) (h1 : k ≤ 999) (w : World) (hT : Tb w) : Calls Tryz.prog 146 #[.int .i64 k] w fun e w' => e = .returned (.string (str (dec k))) ∧ Below w.heap.size w w' := by
  have hf := Tryz.strconv_FormatInt_10 k (by omega) (by omega) w hT
  have e1 : (⟨(Lib.itoa k).toArray⟩ : ByteArray) = str (dec k) := by
    obtain ⟨n, rfl⟩ := Int.eq_ofNat_of_zero_le h0
    rw [Lib.itoa_nonneg]; rfl
  rw [e1] at hf
  obtain ⟨s, hs⟩ : ∃ s, s = str (dec k) := ⟨_, rfl⟩
  rw [← hs] at hf ⊢
  clear hT e1 hs
  go_enter Tryz.func146, Tryz.ntmps146
  go_wp2_with (go_at_call 155; refine hf.mono ?_; rintro e w' ⟨rfl, q, os, rfl⟩)
  go_ret
  exact ⟨rfl, Lib.below_grow _ _ (Nat.le_refl _) _ _⟩

abbrev Kx : Type := { k : Int // 0 ≤ k ∧ k ≤ 999 }

def pieces (l : List Int) : List Value := l.map fun k => .string (str (dec k))

/-- A step that appends, inside a fence, out of the append's own run. -/
theorem stepIn_append {F : Fence} {n : Nat} {P : Program} {w : World} {ops : Array Oper} {o : Oper} {a : Act} {K : Act → World → Prop} {Q : Exit → Act → World → Prop} {E : Prop} (hgd : o.guard = none) (s x : Operand) (t : TypeId)
    (hop : o.op = .call { callee := .builtin .append, args := #[s, x], argTypes := #[t, t] }) {v u v' : Value} {w' : World} (hs : a.eval s = v) (hx : a.eval x = u) (hrun : (Builtin.append_ #[t, t] o.type #[v, u]).run P w = .ok v' w') (h : K (a.put o.dst v') w') :
    if Region.wanted o (yielded ops a.tmps) = true then Oper.wpIn F n P o a w K Q else E := by
  rw [if_pos (by simp [Region.wanted, hgd])]
  unfold Oper.wpIn
  refine ⟨?_, ?_⟩
  · simp [Oper.about, hop, resolve, Target.leads, Sem.run_pure]
  · rw [Oper.semAt_plain F _ _ (by rw [hop]; intro c hc'; cases hc')]
    simp [execOp, hop, resolve, invoke, builtin, hs, hx, hrun, Result.andThen]
    exact h

theorem piece_more (pre : List Kx) (x : Kx) : pieces ((pre ++ [x]).map Subtype.val) = pieces (pre.map Subtype.val) ++ [.string (str (dec x.1))] := by simp [pieces]

/-- A piece more: what the append and the store leave. -/
theorem piece_added {W w2 : World} {B k : Nat} {v : Value} {xs : List Value} (s : ByteArray) (hv : Boxed W B 22 v) (hrow : W.ownsRow B 9 1 v k xs) (hb : Below W.heap.size W w2) (hB : B ≤ W.heap.size) (hk : k ≤ 100) :
    ∃ g cap w3, (Builtin.append_ #[22, 22] 22 #[v, .slice (some ⟨w2.heap.size, 0, none⟩) 1 1]).run Tryz.prog (w2.alloc (.cells #[.string s] 9)) = .ok (.slice (some ⟨g, 0, none⟩) (k + 1) cap) w3 ∧
      (w2.cell? ⟨B, 0, none⟩ = some v ∧ w3.cell? ⟨B, 0, none⟩ = some v ∧ w3.frozen? ⟨B, 0, none⟩ = false) ∧
      Hid (Boxed (w3.setCell ⟨B, 0, none⟩ (.slice (some ⟨g, 0, none⟩) (k + 1) cap)) B 22 (.slice (some ⟨g, 0, none⟩) (k + 1) cap) ∧ (w3.setCell ⟨B, 0, none⟩ (.slice (some ⟨g, 0, none⟩) (k + 1) cap)).ownsRow B 9 1 (.slice (some ⟨g, 0, none⟩) (k + 1) cap) (k + 1) (xs ++ [.string s]) ∧
        KeepsOthers W (w3.setCell ⟨B, 0, none⟩ (.slice (some ⟨g, 0, none⟩) (k + 1) cap)) ∧ Below B W (w3.setCell ⟨B, 0, none⟩ (.slice (some ⟨g, 0, none⟩) (k + 1) cap))) := by
  obtain ⟨i0, hi, hz0, hz1, hz2⟩ := info_parts Tryz.infoStr
  have hg2 := grown_of_below hb
  have hv2 : Boxed w2 B 22 v := hv.kept hg2 (fun e' => by cases e')
  have hrow2 : w2.ownsRow B 9 1 v k xs := hrow.kept hg2 (by cases Value.ownBlock v <;> simp)
  have hs2 := hb.size
  obtain ⟨v', w3, hrun, hown', hgrow, _⟩ := run_append_own (P := Tryz.prog) (w2.alloc (.cells #[.string s] 9)) B 22 22 9 i0 (.string ByteArray.empty) 1 16 Tryz.underlying22 hi hz0 hz1 hz2 rfl (by decide) v k _ (hrow2.alloc _) ⟨w2.heap.size, 0, none⟩ 1 1 [.string s] rfl (cell_one_new _ _ _) (by simp [Value.oneCell']) (by unfold maxLen; omega) (by omega) (by simp; omega)
  obtain ⟨g, cap, rfl⟩ := ownsRow_succ hown'
  obtain ⟨hv3, hv4, hr4, hk4, hb4⟩ := hv2.appended (by decide) hrow2 (by omega) (Nat.le_refl _) hown' hgrow
  have hk2 : KeepsOthers W w2 := ⟨hs2, fun j o hj _ => (hb.block j (Array.getElem?_eq_some_iff.1 hj).1).trans hj⟩
  exact ⟨g, cap, w3, hrun, ⟨hv2.cell, hv3.cell, hv3.frozen⟩, hv4, hr4, hk2.trans hk4, (hb.mono hB).trans hb4⟩

theorem inter_keys (k : Int) (t : List Int) : List.intercalate [44] (dec k :: t.map dec) = dec k ++ tailT t := by
  induction t generalizing k with
  | nil => simp [List.intercalate, tailT]
  | cons a t ih =>
    have h := ih a
    have e : List.intercalate [44] (dec k :: dec a :: t.map dec) = dec k ++ ([44] ++ List.intercalate [44] (dec a :: t.map dec)) := by
      simp [List.intercalate, List.intersperse]
    rw [List.map_cons, e, h]
    simp [tailT]

theorem join_keys (l : List Int) : Lib.join ((l.map fun k => str (dec k)).map (·.data.toList)) [44] = keysT l := by
  have h1 : (l.map fun k => str (dec k)).map (·.data.toList) = l.map dec := by
    rw [List.map_map]
    apply List.map_congr_left
    intro k _
    simp [str]
  rw [h1]
  unfold Lib.join
  cases l with
  | nil => rfl
  | cons k t => exact inter_keys k t

theorem keys_len {l : List Int} (h : l.length ≤ 3) (hk : ∀ k ∈ l, 0 ≤ k ∧ k ≤ 999) : (keysT l).length ≤ 100 := by
  have ht : ∀ t : List Int, (∀ k ∈ t, 0 ≤ k ∧ k ≤ 999) → (tailT t).length ≤ 11 * t.length := by
    intro t
    induction t with
    | nil => intro _; simp [tailT]
    | cons a t ih =>
      intro hk
      have h1 := dec_len (hk a (List.mem_cons_self ..)).2
      have h2 := ih fun k hk' => hk k (List.mem_cons_of_mem _ hk')
      simp [tailT]; omega
  cases l with
  | nil => simp [keysT]
  | cons a t =>
    have h1 := dec_len (hk a (List.mem_cons_self ..)).2
    have h2 := ht t fun k hk' => hk k (List.mem_cons_of_mem _ hk')
    simp at h
    simp [keysT]; omega

theorem join_pieces (v : Value) (W : World) {l : List Int} {n base : Nat} (hrow : W.ownsRow base 9 1 v n (pieces l)) (hn : n = l.length) (h3 : l.length ≤ 3) (hk : ∀ k ∈ l, 0 ≤ k ∧ k ≤ 999) :
    Calls Tryz.prog 131 #[v, .string ⟨#[44]⟩] W fun e w' => e = .returned (.string (str (keysT l))) ∧ Below W.heap.size W w' := by
  subst hn
  rcases id hrow.2 with ⟨rfl, h0⟩ | ⟨g, c, cur, rfl, _, _, h1, _⟩
  · obtain rfl : l = [] := List.length_eq_zero_iff.1 h0
    exact (Tryz.strings_Join_none none 0 ⟨#[44]⟩ W).mono fun e w' ⟨he, hw⟩ => ⟨he, hw ▸ Below.refl _ _⟩
  · have hJ := Tryz.strings_Join g 0 c (l.map fun k => str (dec k)) ⟨#[44]⟩ W (fun j x hj => by
      have hjl : j < l.length := by
        have := (List.getElem?_eq_some_iff.1 hj).1
        simpa using this
      rw [Nat.zero_add, hrow.cellAt j (by omega)]
      simp [pieces]
      simp at hj
      obtain ⟨a, ha, rfl⟩ := hj
      exact ⟨a, ha, rfl⟩) (hrow.lt g rfl).2 (by simp; omega) (by simpa using h1) (by
        show (Lib.join _ [44]).length ≤ _
        rw [join_keys]
        have := keys_len h3 hk
        omega)
    rw [List.length_map] at hJ
    refine hJ.mono fun e w' ⟨he, hb⟩ => ⟨?_, hb⟩
    rw [he]
    show Ending.returned (.string ⟨(Lib.join _ [44]).toArray⟩) = _
    rw [join_keys]
    rfl

set_option maxRecDepth 100000 in
set_option maxHeartbeats 4000000 in
theorem joinNumbers_any (Bs len cap : Nat) (a : Option Addr) (l : List Int) (w0 w : World) (hlen : len ≤ 3) (hk : ∀ k ∈ l, 0 ≤ k ∧ k ≤ 999) (hI : IAt w0 a len l) (hB : Below w0.heap.size w0 w) (hBl : Bs < w.heap.size) (hBs : w.cell? ⟨Bs, 0, none⟩ = some (.slice a len cap)) (hT : Tb w) :
    Calls Tryz.prog 166 #[.func (.func 142) #[] #[.pointer (some ⟨Bs, 0, none⟩)], .string ⟨#[44]⟩] w fun e w' => e = .returned (.string (str (keysT l))) ∧ Below w.heap.size w w' := by
  obtain ⟨i0, hi, hz0, hz1, hz2⟩ := info_parts Tryz.infoStr
  obtain ⟨zs, hz⟩ : ∃ zs : List Kx, zs.map Subtype.val = l := by
    clear hI
    induction l with
    | nil => exact ⟨[], rfl⟩
    | cons k t ih =>
      obtain ⟨zs, e⟩ := ih fun j hj => hk j (List.mem_cons_of_mem _ hj)
      exact ⟨⟨k, hk k (List.mem_cons_self ..)⟩ :: zs, by rw [List.map_cons, e]⟩
  obtain ⟨s0, hs0⟩ : ∃ s, s = str (keysT l) := ⟨_, rfl⟩
  rw [← hs0]
  have HS0 : Hid (s0 = str (keysT l)) := hs0
  clear hs0
  refine (callsIn_wide (n := 3)).1 ?_
  refine callsIn_of_wp_marks Tryz.func166 rfl trivial ?_ rfl
  simp only [Tryz.ntmps166, List.size_toArray, List.length_cons, List.length_nil, Nat.reduceAdd, Nat.reduceSub, Array.replicate_succ, Array.replicate_zero, List.push_toArray, List.append_toArray, List.nil_append, List.cons_append]
  gi_wp2
  have bO := Boxed.new w 22 (.slice none 0 0)
  have hB0 : Below w.heap.size w (w.alloc (.cells #[.slice none 0 0] 22)) := below_box _
  have hsz := hB.size
  refine wpIn_rangeFunc_ownG rfl (by omega) (gf := 142) (lb := #[.pointer (some ⟨Bs, 0, none⟩)]) rfl trivial (enters_of Tryz.func142 (by kernel_rfl) rfl)
    (each_stops (fun x : Kx => x.1) Fence.wide (3 - 1) trivial rfl (by omega) Bs len cap a zs w0 _ (by omega) (by rw [hz]; exact hI) (hB.trans (hB0.mono hsz)) (by simp; omega) ((hB0.cell (p := ⟨Bs, 0, none⟩) hBl).trans hBs)) belowK_t (belowK_b (by simp; omega)) (Below.refl _ _) (fun _ => rfl)
    (fun (pre : List Kx) W => (∃ v, Boxed W w.heap.size 22 v ∧ W.ownsRow w.heap.size 9 1 v pre.length (pieces (pre.map Subtype.val)) ∧ True) ∧ Below w.heap.size w W)
    (fun _ _ _ => False)
    (OwnFrom.and (Own.from (holdsRow_own w.heap.size w.heap.size 22 9 1 (fun (pre : List Kx) => pre.length) (fun pre => pieces (pre.map Subtype.val)) (fun _ _ => True)) _) (ownFrom_below (Nat.le_refl _) (by simp)))
    (fun _ _ _ _ _ hs _ _ => hs)
    ⟨⟨_, bO, World.ownsRow_nil _ _ _ _, trivial⟩, hB0⟩
    (fun x => { tmps := #[.func (.func 142) #[] #[.pointer (some ⟨Bs, 0, none⟩)], .string ⟨#[44]⟩, undef, undef, .string ⟨#[]⟩, .pointer (some ⟨w.heap.size, 0, none⟩), .int .i64 x.1, .func (.func 142) #[] #[.pointer (some ⟨Bs, 0, none⟩)], .int .i64 x.1, undef, undef, undef, undef, undef, undef, undef, undef], defers := [] }) ?assign ?body ?done ?stop
  case assign =>
    intro l x W K hK
    gi_wp2
    exact hK
  case body =>
    rintro lp pre ⟨x, hx⟩ W ⟨⟨v, hv, hrow, _⟩, hBB⟩ hlt
    have hc := hv.cell
    have hpl : pre.length ≤ 100 := by omega
    obtain ⟨s, hs⟩ : ∃ s, s = str (dec x) := ⟨_, rfl⟩
    have hwn := writeNumber_any hx.1 hx.2 W.drew ((hT.below hBB (Nat.le_refl _)).below (Below.refl _ _).drew (Nat.le_refl _))
    rw [← hs] at hwn
    have HS : Hid (s = str (dec x)) := hs
    clear hs
    gi_wp2
    refine wpIn_region_any (by kernel_rfl) ?_
    change wpAnyIn _ _ _ _ _ _ _ _ _ (World.drew _)
    refine wpAnyIn_ready (rs := [0, 1]) (by kernel_rfl) (by simp) (AllReadyIn.cons rfl (fun K hK => ?_) (AllReadyIn.cons rfl (fun K hK => ?_) AllReadyIn.nil))
    · go_simp
      refine hK _ _ ?_
      clear hK K
      refine wpAnyIn_ready (rs := [1]) (by kernel_rfl) (by simp) (AllReadyIn.cons rfl (fun K hK => ?_) AllReadyIn.nil)
      go_simp
      refine hK _ _ ?_
      clear hK K
      refine wpAnyIn_ready (rs := [2]) (by kernel_rfl) (by simp) (AllReadyIn.cons rfl (fun K hK => ?_) AllReadyIn.nil)
      go_simp
      refine ⟨trivial, ?_⟩
      refine (CallsIn.inRound lp (callsIn_wide.2 hwn)).mono ?_
      rintro e w2 ⟨rfl, hb2⟩
      obtain ⟨g, cap', w3, hrun, ⟨hc2, hc3, hf3⟩, HP⟩ := piece_added s hv hrow ((Below.refl _ _).drew.trans hb2) hBB.size hpl
      have hc4 : ∀ o, (w2.alloc o).cell? ⟨w.heap.size, 0, none⟩ = some v := fun o => kept1 o hc2
      go_simp
      refine hK _ _ ?_
      clear hK K
      refine wpAnyIn_ready (rs := [3]) (by kernel_rfl) (by simp) (AllReadyIn.cons rfl (fun K hK => ?_) AllReadyIn.nil)
      go_simp
      refine hK _ _ ?_
      clear hK K
      refine wpAnyIn_ready (rs := [4]) (by kernel_rfl) (by simp) (AllReadyIn.cons rfl (fun K hK => ?_) AllReadyIn.nil)
      refine stepIn_append (v := v) (u := .slice (some ⟨w2.heap.size, 0, none⟩) 1 1) rfl (.tmp 9) (.tmp 12) 22 rfl rfl rfl hrun ?_
      refine hK _ _ ?_
      clear hK K
      refine wpAnyIn_ready (rs := [5]) (by kernel_rfl) (by simp) (AllReadyIn.cons rfl (fun K hK => ?_) AllReadyIn.nil)
      go_simp
      refine hK _ _ ?_
      clear hK K
      refine wpAnyIn_done (by kernel_rfl) ?_ _
      gi_wp2
      obtain ⟨e1, e2, e3, e4⟩ := HP.out
      exact ⟨e3.from _, e4.mono hsz, ⟨_, e1, by rw [piece_more, ← HS.out, List.length_append]; exact e2, trivial⟩, hBB.trans e4⟩
    · go_simp
      refine hK _ _ ?_
      clear hK K
      refine wpAnyIn_ready (rs := [0, 2]) (by kernel_rfl) (by simp) (AllReadyIn.cons rfl (fun K hK => ?_) (AllReadyIn.cons rfl (fun K hK => ?_) AllReadyIn.nil))
      · go_simp
        refine hK _ _ ?_
        clear hK K
        refine wpAnyIn_ready (rs := [2]) (by kernel_rfl) (by simp) (AllReadyIn.cons rfl (fun K hK => ?_) AllReadyIn.nil)
        go_simp
        refine ⟨trivial, ?_⟩
        refine (CallsIn.inRound lp (callsIn_wide.2 hwn)).mono ?_
        rintro e w2 ⟨rfl, hb2⟩
        obtain ⟨g, cap', w3, hrun, ⟨hc2, hc3, hf3⟩, HP⟩ := piece_added s hv hrow ((Below.refl _ _).drew.trans hb2) hBB.size hpl
        have hc4 : ∀ o, (w2.alloc o).cell? ⟨w.heap.size, 0, none⟩ = some v := fun o => kept1 o hc2
        go_simp
        refine hK _ _ ?_
        clear hK K
        refine wpAnyIn_ready (rs := [3]) (by kernel_rfl) (by simp) (AllReadyIn.cons rfl (fun K hK => ?_) AllReadyIn.nil)
        go_simp
        refine hK _ _ ?_
        clear hK K
        refine wpAnyIn_ready (rs := [4]) (by kernel_rfl) (by simp) (AllReadyIn.cons rfl (fun K hK => ?_) AllReadyIn.nil)
        refine stepIn_append (v := v) (u := .slice (some ⟨w2.heap.size, 0, none⟩) 1 1) rfl (.tmp 9) (.tmp 12) 22 rfl rfl rfl hrun ?_
        refine hK _ _ ?_
        clear hK K
        refine wpAnyIn_ready (rs := [5]) (by kernel_rfl) (by simp) (AllReadyIn.cons rfl (fun K hK => ?_) AllReadyIn.nil)
        go_simp
        refine hK _ _ ?_
        clear hK K
        refine wpAnyIn_done (by kernel_rfl) ?_ _
        gi_wp2
        obtain ⟨e1, e2, e3, e4⟩ := HP.out
        exact ⟨e3.from _, e4.mono hsz, ⟨_, e1, by rw [piece_more, ← HS.out, List.length_append]; exact e2, trivial⟩, hBB.trans e4⟩
      · go_simp
        refine ⟨trivial, ?_⟩
        refine (CallsIn.inRound lp (callsIn_wide.2 hwn)).mono ?_
        rintro e w2 ⟨rfl, hb2⟩
        obtain ⟨g, cap', w3, hrun, ⟨hc2, hc3, hf3⟩, HP⟩ := piece_added s hv hrow ((Below.refl _ _).drew.trans hb2) hBB.size hpl
        have hc4 : ∀ o, (w2.alloc o).cell? ⟨w.heap.size, 0, none⟩ = some v := fun o => kept1 o hc2
        go_simp
        refine hK _ _ ?_
        clear hK K
        refine wpAnyIn_ready (rs := [0, 3]) (by kernel_rfl) (by simp) (AllReadyIn.cons rfl (fun K hK => ?_) (AllReadyIn.cons rfl (fun K hK => ?_) AllReadyIn.nil))
        · go_simp
          refine hK _ _ ?_
          clear hK K
          refine wpAnyIn_ready (rs := [3]) (by kernel_rfl) (by simp) (AllReadyIn.cons rfl (fun K hK => ?_) AllReadyIn.nil)
          go_simp
          refine hK _ _ ?_
          clear hK K
          refine wpAnyIn_ready (rs := [4]) (by kernel_rfl) (by simp) (AllReadyIn.cons rfl (fun K hK => ?_) AllReadyIn.nil)
          refine stepIn_append (v := v) (u := .slice (some ⟨w2.heap.size, 0, none⟩) 1 1) rfl (.tmp 9) (.tmp 12) 22 rfl rfl rfl hrun ?_
          refine hK _ _ ?_
          clear hK K
          refine wpAnyIn_ready (rs := [5]) (by kernel_rfl) (by simp) (AllReadyIn.cons rfl (fun K hK => ?_) AllReadyIn.nil)
          go_simp
          refine hK _ _ ?_
          clear hK K
          refine wpAnyIn_done (by kernel_rfl) ?_ _
          gi_wp2
          obtain ⟨e1, e2, e3, e4⟩ := HP.out
          exact ⟨e3.from _, e4.mono hsz, ⟨_, e1, by rw [piece_more, ← HS.out, List.length_append]; exact e2, trivial⟩, hBB.trans e4⟩
        · go_simp
          refine hK _ _ ?_
          clear hK K
          refine wpAnyIn_ready (rs := [0]) (by kernel_rfl) (by simp) (AllReadyIn.cons rfl (fun K hK => ?_) AllReadyIn.nil)
          go_simp
          refine hK _ _ ?_
          clear hK K
          refine wpAnyIn_ready (rs := [4]) (by kernel_rfl) (by simp) (AllReadyIn.cons rfl (fun K hK => ?_) AllReadyIn.nil)
          refine stepIn_append (v := v) (u := .slice (some ⟨w2.heap.size, 0, none⟩) 1 1) rfl (.tmp 9) (.tmp 12) 22 rfl rfl rfl hrun ?_
          refine hK _ _ ?_
          clear hK K
          refine wpAnyIn_ready (rs := [5]) (by kernel_rfl) (by simp) (AllReadyIn.cons rfl (fun K hK => ?_) AllReadyIn.nil)
          go_simp
          refine hK _ _ ?_
          clear hK K
          refine wpAnyIn_done (by kernel_rfl) ?_ _
          gi_wp2
          obtain ⟨e1, e2, e3, e4⟩ := HP.out
          exact ⟨e3.from _, e4.mono hsz, ⟨_, e1, by rw [piece_more, ← HS.out, List.length_append]; exact e2, trivial⟩, hBB.trans e4⟩
  case done =>
    rintro D ys W hD rfl ⟨⟨v, hv, hrow, _⟩, hBB⟩ hK
    have hc := hv.cell
    rw [hz] at hrow
    have hj := join_pieces v W hrow (by rw [← hz]; simp) (by rw [hI.1]; exact hlen) hk
    have hln : (ys.map Subtype.val).length = ys.length := by simp
    rw [← HS0.out] at hj
    gi_wp2
    refine ⟨trivial, (callsIn_wide.2 hj).mono ?_⟩
    rintro e w2 ⟨rfl, hb2⟩
    have hK2 := (hb2.block D (lt_of_block hK)).trans hK
    gi_wp2
    refine ⟨by simp, .inl ⟨_, _, rfl, run_takeDeferred hK2, ?_⟩⟩
    exact ⟨_, results_tmp rfl _ _ _, rfl, (hBB.trans (hb2.mono hBB.size)).trans (belowK_b (w := w) (Nat.le_refl _) w2 D _ _ (by simp at hD; omega) hK2 rfl rfl)⟩
  case stop =>
    rintro D c pre W _ _ h _
    exact h.elim

end Go.Proofs.YtjgilpkkfpbefaaGreatDoor
