/- The program's numbers written and joined. What RuleText answers: the specification's and the program's. The specification's OutSum, and the law on it, out of the program's contract. The specification's ClashTx. What the specification's TxText answers; what the program's owes. Blanks replaced by underscores, as the library says it: the same as the swap of each byte. The program's words of a transaction. The words of a transaction, joined, are its text. The program's refs written. A region that draws its order, by what holds whatever has been done of it. Rules that are drawn: whatever the bytes, some rule, its keys in memory of its own. Marks in coins are read back; the results that hold coins. The program's CoinAt. -/
import Derived.Test.YtagokfoimokniaaGreatDoorJn3
import Derived.Test.YtagokfoimokniaaGreatDoorSh
import Derived.Stop.RegionWithIn
import Derived.Maps.AppendAt
import Derived.RangeFuncWrites
import Derived.Lib.AppendIntMem
import Derived.Lib.Join
import Derived.Test.YtagokfoimokniaaGreatDoorJn1
import Derived.Lib.Replace
import Derived.Lib.QuietBelow
import Derived.BigQuiet
import Derived.Deep.RegionLaw
import Derived.Test.YtagokfoimokniaaGreatDoorJn2
namespace Go.Proofs.YtagokfoimokniaaGreatDoor
open Go.RowKit Go.Shelf Go.Maps Go.WideMaps
attribute [local go_sem] Oper.semAt_some

/-- The library's table of powers, as the row lays it. -/
def Tb (w : World) : Prop := Lib.TabIs Tryz.prog w "internal/strconv.uint64pow10" .u64 Lib.pow10Tab
theorem Tryz.pow10At : (Tryz.prog.globalNamed "internal/strconv.uint64pow10").isSome = true := by kernel_rfl
theorem Tb.below {w w' : World} (h : Tb w) {B : Nat} (hb : Below B w w') (hB : w.heap.size ≤ B) : Tb w' := by
  obtain ⟨g, hg⟩ := Option.isSome_iff_exists.1 Tryz.pow10At
  exact Joins.tab_stays hg h hb hB

theorem writeNumber_any {k : Int} (h0 : 0 ≤ k) (h1 : k ≤ 999) (w : World) (hT : Tb w) : Calls Tryz.prog 84 #[.int .i64 k] w fun e w' => e = .returned (.string (str (dec k))) ∧ Below w.heap.size w w' := by
  have hf := Tryz.strconv_FormatInt_10 k (by omega) (by omega) w hT
  have e1 : (⟨(Lib.itoa k).toArray⟩ : ByteArray) = str (dec k) := by
    obtain ⟨n, rfl⟩ := Int.eq_ofNat_of_zero_le h0
    rw [Lib.itoa_nonneg]; rfl
  rw [e1] at hf
  obtain ⟨s, hs⟩ : ∃ s, s = str (dec k) := ⟨_, rfl⟩
  rw [← hs] at hf ⊢
  clear hT e1 hs
  go_enter Tryz.func84, Tryz.ntmps84
  go_wp2_with (go_at_call 131; refine hf.mono ?_; rintro e w' ⟨rfl, q, os, rfl⟩)
  go_ret
  exact ⟨rfl, Lib.below_grow _ _ (Nat.le_refl _) _ _⟩

abbrev Kx : Type := { k : Int // 0 ≤ k ∧ k ≤ 999 }

def pieces (l : List Int) : List Value := l.map fun k => .string (str (dec k))

/-- A step that appends, inside a fence, out of the append's own run. -/
theorem stepIn_append {F : Fence} {n : Nat} {P : Program} {w : World} {ops : Array Oper} {o : Oper} {a : Act} {K : Act → World → Prop} {Q : Exit → Act → World → Prop} {E : Prop} (hgd : o.guard = none) (s x : Operand) (t : TypeId)
    (hop : o.op = .call { callee := .builtin .append, args := #[s, x], argTypes := #[t, t] }) {v u v' : Value} {w' : World} (hs : a.eval s = v) (hx : a.eval x = u) (hrun : (Builtin.append_ #[t, t] o.type #[v, u]).run P w = .ok v' w') (h : K (a.put o.dst v') w') :
    if Region.wanted o (yielded ops a.tmps) = true then Oper.wpIn F n P o a w K Q else E := by
  rw [if_pos (by simp [Region.wanted, hgd])]
  unfold Oper.wpIn
  refine ⟨?_, ?_⟩
  · simp [Oper.about, hop, resolve, Target.leads, Sem.run_pure]
  · rw [Oper.semAt_plain F _ _ (by rw [hop]; intro c hc'; cases hc')]
    simp [execOp, hop, resolve, invoke, builtin, hs, hx, hrun, Result.andThen]
    exact h

theorem piece_more (pre : List Kx) (x : Kx) : pieces ((pre ++ [x]).map Subtype.val) = pieces (pre.map Subtype.val) ++ [.string (str (dec x.1))] := by simp [pieces]

/-- A piece more: what the append and the store leave. -/
theorem piece_added {W w2 : World} {B k : Nat} {v : Value} {xs : List Value} (s : ByteArray) (hv : Boxed W B 24 v) (hrow : W.ownsRow B 9 1 v k xs) (hb : Below W.heap.size W w2) (hB : B ≤ W.heap.size) (hk : k ≤ 100) :
    ∃ g cap w3, (Builtin.append_ #[24, 24] 24 #[v, .slice (some ⟨w2.heap.size, 0, none⟩) 1 1]).run Tryz.prog (w2.alloc (.cells #[.string s] 9)) = .ok (.slice (some ⟨g, 0, none⟩) (k + 1) cap) w3 ∧
      (w2.cell? ⟨B, 0, none⟩ = some v ∧ w3.cell? ⟨B, 0, none⟩ = some v ∧ w3.frozen? ⟨B, 0, none⟩ = false) ∧
      Hid (Boxed (w3.setCell ⟨B, 0, none⟩ (.slice (some ⟨g, 0, none⟩) (k + 1) cap)) B 24 (.slice (some ⟨g, 0, none⟩) (k + 1) cap) ∧ (w3.setCell ⟨B, 0, none⟩ (.slice (some ⟨g, 0, none⟩) (k + 1) cap)).ownsRow B 9 1 (.slice (some ⟨g, 0, none⟩) (k + 1) cap) (k + 1) (xs ++ [.string s]) ∧
        KeepsOthers W (w3.setCell ⟨B, 0, none⟩ (.slice (some ⟨g, 0, none⟩) (k + 1) cap)) ∧ Below B W (w3.setCell ⟨B, 0, none⟩ (.slice (some ⟨g, 0, none⟩) (k + 1) cap))) := by
  obtain ⟨i0, hi, hz0, hz1, hz2⟩ := info_parts Tryz.infoStr
  have hg2 := grown_of_below hb
  have hv2 : Boxed w2 B 24 v := hv.kept hg2 (fun e' => by cases e')
  have hrow2 : w2.ownsRow B 9 1 v k xs := hrow.kept hg2 (by cases Value.ownBlock v <;> simp)
  have hs2 := hb.size
  obtain ⟨v', w3, hrun, hown', hgrow, _⟩ := run_append_own (P := Tryz.prog) (w2.alloc (.cells #[.string s] 9)) B 24 24 9 i0 (.string ByteArray.empty) 1 16 Tryz.underlying24 hi hz0 hz1 hz2 rfl (by decide) v k _ (hrow2.alloc _) ⟨w2.heap.size, 0, none⟩ 1 1 [.string s] rfl (cell_one_new _ _ _) (by simp [Value.oneCell']) (by unfold maxLen; omega) (by omega) (by simp; omega)
  obtain ⟨g, cap, rfl⟩ := ownsRow_succ hown'
  obtain ⟨hv3, hv4, hr4, hk4, hb4⟩ := hv2.appended (by decide) hrow2 (by omega) (Nat.le_refl _) hown' hgrow
  have hk2 : KeepsOthers W w2 := ⟨hs2, fun j o hj _ => (hb.block j (Array.getElem?_eq_some_iff.1 hj).1).trans hj⟩
  exact ⟨g, cap, w3, hrun, ⟨hv2.cell, hv3.cell, hv3.frozen⟩, hv4, hr4, hk2.trans hk4, (hb.mono hB).trans hb4⟩

theorem inter_keys (k : Int) (t : List Int) : List.intercalate [44] (dec k :: t.map dec) = dec k ++ tailT t := by
  induction t generalizing k with
  | nil => simp [List.intercalate, tailT]
  | cons a t ih =>
    have h := ih a
    have e : List.intercalate [44] (dec k :: dec a :: t.map dec) = dec k ++ ([44] ++ List.intercalate [44] (dec a :: t.map dec)) := by
      simp [List.intercalate, List.intersperse]
    rw [List.map_cons, e, h]
    simp [tailT]

theorem join_keys (l : List Int) : Lib.join ((l.map fun k => str (dec k)).map (·.data.toList)) [44] = keysT l := by
  have h1 : (l.map fun k => str (dec k)).map (·.data.toList) = l.map dec := by
    rw [List.map_map]
    apply List.map_congr_left
    intro k _
    simp [str]
  rw [h1]
  unfold Lib.join
  cases l with
  | nil => rfl
  | cons k t => exact inter_keys k t

theorem keys_len {l : List Int} (h : l.length ≤ 3) (hk : ∀ k ∈ l, 0 ≤ k ∧ k ≤ 999) : (keysT l).length ≤ 100 := by
  have ht : ∀ t : List Int, (∀ k ∈ t, 0 ≤ k ∧ k ≤ 999) → (tailT t).length ≤ 11 * t.length := by
    intro t
    induction t with
    | nil => intro _; simp [tailT]
    | cons a t ih =>
      intro hk
      have h1 := dec_len (hk a (List.mem_cons_self ..)).2
      have h2 := ih fun k hk' => hk k (List.mem_cons_of_mem _ hk')
      simp [tailT]; omega
  cases l with
  | nil => simp [keysT]
  | cons a t =>
    have h1 := dec_len (hk a (List.mem_cons_self ..)).2
    have h2 := ht t fun k hk' => hk k (List.mem_cons_of_mem _ hk')
    simp at h
    simp [keysT]; omega

theorem join_pieces (v : Value) (W : World) {l : List Int} {n base : Nat} (hrow : W.ownsRow base 9 1 v n (pieces l)) (hn : n = l.length) (h3 : l.length ≤ 3) (hk : ∀ k ∈ l, 0 ≤ k ∧ k ≤ 999) :
    Calls Tryz.prog 37 #[v, .string ⟨#[44]⟩] W fun e w' => e = .returned (.string (str (keysT l))) ∧ Below W.heap.size W w' := by
  subst hn
  rcases id hrow.2 with ⟨rfl, h0⟩ | ⟨g, c, cur, rfl, _, _, h1, _⟩
  · obtain rfl : l = [] := List.length_eq_zero_iff.1 h0
    exact (Tryz.strings_Join_none none 0 ⟨#[44]⟩ W).mono fun e w' ⟨he, hw⟩ => ⟨he, hw ▸ Below.refl _ _⟩
  · have hJ := Tryz.strings_Join g 0 c (l.map fun k => str (dec k)) ⟨#[44]⟩ W (fun j x hj => by
      have hjl : j < l.length := by
        have := (List.getElem?_eq_some_iff.1 hj).1
        simpa using this
      rw [Nat.zero_add, hrow.cellAt j (by omega)]
      simp [pieces]
      simp at hj
      obtain ⟨a, ha, rfl⟩ := hj
      exact ⟨a, ha, rfl⟩) (hrow.lt g rfl).2 (by simp; omega) (by simpa using h1) (by
        show (Lib.join _ [44]).length ≤ _
        rw [join_keys]
        have := keys_len h3 hk
        omega)
    rw [List.length_map] at hJ
    refine hJ.mono fun e w' ⟨he, hb⟩ => ⟨?_, hb⟩
    rw [he]
    show Ending.returned (.string ⟨(Lib.join _ [44]).toArray⟩) = _
    rw [join_keys]
    rfl

set_option maxRecDepth 100000 in
set_option maxHeartbeats 4000000 in
theorem joinNumbers_any (Bs len cap : Nat) (a : Option Addr) (l : List Int) (w0 w : World) (hlen : len ≤ 3) (hk : ∀ k ∈ l, 0 ≤ k ∧ k ≤ 999) (hI : IAt w0 a len l) (hB : Below w0.heap.size w0 w) (hBl : Bs < w.heap.size) (hBs : w.cell? ⟨Bs, 0, none⟩ = some (.slice a len cap)) (hT : Tb w) :
    Calls Tryz.prog 159 #[.func (.func 160) #[] #[.pointer (some ⟨Bs, 0, none⟩)], .string ⟨#[44]⟩] w fun e w' => e = .returned (.string (str (keysT l))) ∧ Below w.heap.size w w' := by
  obtain ⟨i0, hi, hz0, hz1, hz2⟩ := info_parts Tryz.infoStr
  obtain ⟨zs, hz⟩ : ∃ zs : List Kx, zs.map Subtype.val = l := by
    clear hI
    induction l with
    | nil => exact ⟨[], rfl⟩
    | cons k t ih =>
      obtain ⟨zs, e⟩ := ih fun j hj => hk j (List.mem_cons_of_mem _ hj)
      exact ⟨⟨k, hk k (List.mem_cons_self ..)⟩ :: zs, by rw [List.map_cons, e]⟩
  obtain ⟨s0, hs0⟩ : ∃ s, s = str (keysT l) := ⟨_, rfl⟩
  rw [← hs0]
  have HS0 : Hid (s0 = str (keysT l)) := hs0
  clear hs0
  refine (callsIn_wide (n := 3)).1 ?_
  refine callsIn_of_wp_marks Tryz.func159 rfl trivial ?_ rfl
  simp only [Tryz.ntmps159, List.size_toArray, List.length_cons, List.length_nil, Nat.reduceAdd, Nat.reduceSub, Array.replicate_succ, Array.replicate_zero, List.push_toArray, List.append_toArray, List.nil_append, List.cons_append]
  gi_wp2
  have bO := Boxed.new w 24 (.slice none 0 0)
  have hB0 : Below w.heap.size w (w.alloc (.cells #[.slice none 0 0] 24)) := below_box _
  have hsz := hB.size
  refine wpIn_rangeFunc_ownG rfl (by omega) (gf := 160) (lb := #[.pointer (some ⟨Bs, 0, none⟩)]) rfl trivial (enters_of Tryz.func160 (by kernel_rfl) rfl)
    (each_stops (fun x : Kx => x.1) Fence.wide (3 - 1) trivial rfl (by omega) Bs len cap a zs w0 _ (by omega) (by rw [hz]; exact hI) (hB.trans (hB0.mono hsz)) (by simp; omega) ((hB0.cell (p := ⟨Bs, 0, none⟩) hBl).trans hBs)) belowK_t (belowK_b (by simp; omega)) (Below.refl _ _) (fun _ => rfl)
    (fun (pre : List Kx) W => (∃ v, Boxed W w.heap.size 24 v ∧ W.ownsRow w.heap.size 9 1 v pre.length (pieces (pre.map Subtype.val)) ∧ True) ∧ Below w.heap.size w W)
    (fun _ _ _ => False)
    (OwnFrom.and (Own.from (holdsRow_own w.heap.size w.heap.size 24 9 1 (fun (pre : List Kx) => pre.length) (fun pre => pieces (pre.map Subtype.val)) (fun _ _ => True)) _) (ownFrom_below (Nat.le_refl _) (by simp)))
    (fun _ _ _ _ _ hs _ _ => hs)
    ⟨⟨_, bO, World.ownsRow_nil _ _ _ _, trivial⟩, hB0⟩
    (fun x => { tmps := #[.func (.func 160) #[] #[.pointer (some ⟨Bs, 0, none⟩)], .string ⟨#[44]⟩, undef, undef, .string ⟨#[]⟩, .pointer (some ⟨w.heap.size, 0, none⟩), .int .i64 x.1, .func (.func 160) #[] #[.pointer (some ⟨Bs, 0, none⟩)], .int .i64 x.1, undef, undef, undef, undef, undef, undef, undef, undef], defers := [] }) ?assign ?body ?done ?stop
  case assign =>
    intro l x W K hK
    gi_wp2
    exact hK
  case body =>
    rintro lp pre ⟨x, hx⟩ W ⟨⟨v, hv, hrow, _⟩, hBB⟩ hlt
    have hc := hv.cell
    have hpl : pre.length ≤ 100 := by omega
    obtain ⟨s, hs⟩ : ∃ s, s = str (dec x) := ⟨_, rfl⟩
    have hwn := writeNumber_any hx.1 hx.2 W.drew ((hT.below hBB (Nat.le_refl _)).below (Below.refl _ _).drew (Nat.le_refl _))
    rw [← hs] at hwn
    have HS : Hid (s = str (dec x)) := hs
    clear hs
    gi_wp2
    refine wpIn_region_any (by kernel_rfl) ?_
    change wpAnyIn _ _ _ _ _ _ _ _ _ (World.drew _)
    refine wpAnyIn_ready (rs := [0, 1]) (by kernel_rfl) (by simp) (AllReadyIn.cons rfl (fun K hK => ?_) (AllReadyIn.cons rfl (fun K hK => ?_) AllReadyIn.nil))
    · go_simp
      refine hK _ _ ?_
      clear hK K
      refine wpAnyIn_ready (rs := [1]) (by kernel_rfl) (by simp) (AllReadyIn.cons rfl (fun K hK => ?_) AllReadyIn.nil)
      go_simp
      refine hK _ _ ?_
      clear hK K
      refine wpAnyIn_ready (rs := [2]) (by kernel_rfl) (by simp) (AllReadyIn.cons rfl (fun K hK => ?_) AllReadyIn.nil)
      go_simp
      refine ⟨trivial, ?_⟩
      refine (CallsIn.inRound lp (callsIn_wide.2 hwn)).mono ?_
      rintro e w2 ⟨rfl, hb2⟩
      obtain ⟨g, cap', w3, hrun, ⟨hc2, hc3, hf3⟩, HP⟩ := piece_added s hv hrow ((Below.refl _ _).drew.trans hb2) hBB.size hpl
      have hc4 : ∀ o, (w2.alloc o).cell? ⟨w.heap.size, 0, none⟩ = some v := fun o => kept1 o hc2
      go_simp
      refine hK _ _ ?_
      clear hK K
      refine wpAnyIn_ready (rs := [3]) (by kernel_rfl) (by simp) (AllReadyIn.cons rfl (fun K hK => ?_) AllReadyIn.nil)
      go_simp
      refine hK _ _ ?_
      clear hK K
      refine wpAnyIn_ready (rs := [4]) (by kernel_rfl) (by simp) (AllReadyIn.cons rfl (fun K hK => ?_) AllReadyIn.nil)
      refine stepIn_append (v := v) (u := .slice (some ⟨w2.heap.size, 0, none⟩) 1 1) rfl (.tmp 9) (.tmp 12) 24 rfl rfl rfl hrun ?_
      refine hK _ _ ?_
      clear hK K
      refine wpAnyIn_ready (rs := [5]) (by kernel_rfl) (by simp) (AllReadyIn.cons rfl (fun K hK => ?_) AllReadyIn.nil)
      go_simp
      refine hK _ _ ?_
      clear hK K
      refine wpAnyIn_done (by kernel_rfl) ?_ _
      gi_wp2
      obtain ⟨e1, e2, e3, e4⟩ := HP.out
      exact ⟨e3.from _, e4.mono hsz, ⟨_, e1, by rw [piece_more, ← HS.out, List.length_append]; exact e2, trivial⟩, hBB.trans e4⟩
    · go_simp
      refine hK _ _ ?_
      clear hK K
      refine wpAnyIn_ready (rs := [0, 2]) (by kernel_rfl) (by simp) (AllReadyIn.cons rfl (fun K hK => ?_) (AllReadyIn.cons rfl (fun K hK => ?_) AllReadyIn.nil))
      · go_simp
        refine hK _ _ ?_
        clear hK K
        refine wpAnyIn_ready (rs := [2]) (by kernel_rfl) (by simp) (AllReadyIn.cons rfl (fun K hK => ?_) AllReadyIn.nil)
        go_simp
        refine ⟨trivial, ?_⟩
        refine (CallsIn.inRound lp (callsIn_wide.2 hwn)).mono ?_
        rintro e w2 ⟨rfl, hb2⟩
        obtain ⟨g, cap', w3, hrun, ⟨hc2, hc3, hf3⟩, HP⟩ := piece_added s hv hrow ((Below.refl _ _).drew.trans hb2) hBB.size hpl
        have hc4 : ∀ o, (w2.alloc o).cell? ⟨w.heap.size, 0, none⟩ = some v := fun o => kept1 o hc2
        go_simp
        refine hK _ _ ?_
        clear hK K
        refine wpAnyIn_ready (rs := [3]) (by kernel_rfl) (by simp) (AllReadyIn.cons rfl (fun K hK => ?_) AllReadyIn.nil)
        go_simp
        refine hK _ _ ?_
        clear hK K
        refine wpAnyIn_ready (rs := [4]) (by kernel_rfl) (by simp) (AllReadyIn.cons rfl (fun K hK => ?_) AllReadyIn.nil)
        refine stepIn_append (v := v) (u := .slice (some ⟨w2.heap.size, 0, none⟩) 1 1) rfl (.tmp 9) (.tmp 12) 24 rfl rfl rfl hrun ?_
        refine hK _ _ ?_
        clear hK K
        refine wpAnyIn_ready (rs := [5]) (by kernel_rfl) (by simp) (AllReadyIn.cons rfl (fun K hK => ?_) AllReadyIn.nil)
        go_simp
        refine hK _ _ ?_
        clear hK K
        refine wpAnyIn_done (by kernel_rfl) ?_ _
        gi_wp2
        obtain ⟨e1, e2, e3, e4⟩ := HP.out
        exact ⟨e3.from _, e4.mono hsz, ⟨_, e1, by rw [piece_more, ← HS.out, List.length_append]; exact e2, trivial⟩, hBB.trans e4⟩
      · go_simp
        refine ⟨trivial, ?_⟩
        refine (CallsIn.inRound lp (callsIn_wide.2 hwn)).mono ?_
        rintro e w2 ⟨rfl, hb2⟩
        obtain ⟨g, cap', w3, hrun, ⟨hc2, hc3, hf3⟩, HP⟩ := piece_added s hv hrow ((Below.refl _ _).drew.trans hb2) hBB.size hpl
        have hc4 : ∀ o, (w2.alloc o).cell? ⟨w.heap.size, 0, none⟩ = some v := fun o => kept1 o hc2
        go_simp
        refine hK _ _ ?_
        clear hK K
        refine wpAnyIn_ready (rs := [0, 3]) (by kernel_rfl) (by simp) (AllReadyIn.cons rfl (fun K hK => ?_) (AllReadyIn.cons rfl (fun K hK => ?_) AllReadyIn.nil))
        · go_simp
          refine hK _ _ ?_
          clear hK K
          refine wpAnyIn_ready (rs := [3]) (by kernel_rfl) (by simp) (AllReadyIn.cons rfl (fun K hK => ?_) AllReadyIn.nil)
          go_simp
          refine hK _ _ ?_
          clear hK K
          refine wpAnyIn_ready (rs := [4]) (by kernel_rfl) (by simp) (AllReadyIn.cons rfl (fun K hK => ?_) AllReadyIn.nil)
          refine stepIn_append (v := v) (u := .slice (some ⟨w2.heap.size, 0, none⟩) 1 1) rfl (.tmp 9) (.tmp 12) 24 rfl rfl rfl hrun ?_
          refine hK _ _ ?_
          clear hK K
          refine wpAnyIn_ready (rs := [5]) (by kernel_rfl) (by simp) (AllReadyIn.cons rfl (fun K hK => ?_) AllReadyIn.nil)
          go_simp
          refine hK _ _ ?_
          clear hK K
          refine wpAnyIn_done (by kernel_rfl) ?_ _
          gi_wp2
          obtain ⟨e1, e2, e3, e4⟩ := HP.out
          exact ⟨e3.from _, e4.mono hsz, ⟨_, e1, by rw [piece_more, ← HS.out, List.length_append]; exact e2, trivial⟩, hBB.trans e4⟩
        · go_simp
          refine hK _ _ ?_
          clear hK K
          refine wpAnyIn_ready (rs := [0]) (by kernel_rfl) (by simp) (AllReadyIn.cons rfl (fun K hK => ?_) AllReadyIn.nil)
          go_simp
          refine hK _ _ ?_
          clear hK K
          refine wpAnyIn_ready (rs := [4]) (by kernel_rfl) (by simp) (AllReadyIn.cons rfl (fun K hK => ?_) AllReadyIn.nil)
          refine stepIn_append (v := v) (u := .slice (some ⟨w2.heap.size, 0, none⟩) 1 1) rfl (.tmp 9) (.tmp 12) 24 rfl rfl rfl hrun ?_
          refine hK _ _ ?_
          clear hK K
          refine wpAnyIn_ready (rs := [5]) (by kernel_rfl) (by simp) (AllReadyIn.cons rfl (fun K hK => ?_) AllReadyIn.nil)
          go_simp
          refine hK _ _ ?_
          clear hK K
          refine wpAnyIn_done (by kernel_rfl) ?_ _
          gi_wp2
          obtain ⟨e1, e2, e3, e4⟩ := HP.out
          exact ⟨e3.from _, e4.mono hsz, ⟨_, e1, by rw [piece_more, ← HS.out, List.length_append]; exact e2, trivial⟩, hBB.trans e4⟩
  case done =>
    rintro D ys W hD rfl ⟨⟨v, hv, hrow, _⟩, hBB⟩ hK
    have hc := hv.cell
    rw [hz] at hrow
    have hj := join_pieces v W hrow (by rw [← hz]; simp) (by rw [hI.1]; exact hlen) hk
    have hln : (ys.map Subtype.val).length = ys.length := by simp
    rw [← HS0.out] at hj
    gi_wp2
    refine ⟨trivial, (callsIn_wide.2 hj).mono ?_⟩
    rintro e w2 ⟨rfl, hb2⟩
    have hK2 := (hb2.block D (lt_of_block hK)).trans hK
    gi_wp2
    refine ⟨by simp, .inl ⟨_, _, rfl, run_takeDeferred hK2, ?_⟩⟩
    exact ⟨_, results_tmp rfl _ _ _, rfl, (hBB.trans (hb2.mono hBB.size)).trans (belowK_b (w := w) (Nat.le_refl _) w2 D _ _ (by simp at hD; omega) hK2 rfl rfl)⟩
  case stop =>
    rintro D c pre W _ _ h _
    exact h.elim

end Go.Proofs.YtagokfoimokniaaGreatDoor

namespace Go.Proofs.YtagokfoimokniaaGreatDoor
open Go.RowKit Go.Shelf Go.Maps Go.WideMaps

theorem ruleR_zero {l : List Int} {x y : Int} {n : Nat} (hn : l.length = n) (h : ruleR l x y = 0) : (1 ≤ n ∧ n ≤ 3) ∧ (1 ≤ x ∧ x ≤ 3) ∧ (0 ≤ y ∧ y ≤ 999) ∧ ∀ k ∈ l, 1 ≤ k ∧ k ≤ 999 := by
  unfold ruleR at h
  by_cases h1 : inB l.length 1 3 = false
  · rw [if_pos h1] at h; cases h
  rw [if_neg h1] at h
  by_cases h2 : allK l = false ∨ inB x 1 l.length = false ∨ inB y 0 999 = false
  · rw [if_pos h2] at h; cases h
  have a1 := inB_true.1 (show inB l.length 1 3 = true by simpa using h1)
  have a2 : allK l = true := by cases e : allK l; exact absurd (.inl e) h2; rfl
  have a3 := inB_true.1 (show inB x 1 l.length = true by cases e : inB x 1 l.length; exact absurd (.inr (.inl e)) h2; rfl)
  have a4 := inB_true.1 (show inB y 0 999 = true by cases e : inB y 0 999; exact absurd (.inr (.inr e)) h2; rfl)
  refine ⟨by omega, by omega, a4, fun k hk => ?_⟩
  unfold allK at a2
  exact inB_true.1 (List.all_eq_true.1 a2 k hk)

def rtR (l : List Int) (x y : Int) : Int × List UInt8 := if ruleR l x y ≠ 0 then (ruleR l x y, []) else (0, rtxR l x y)

set_option maxRecDepth 20000 in
set_option maxHeartbeats 2000000 in
theorem iRuleText_any (n cap : Nat) (a : Option Addr) (l : List Int) (x y : Int) (w : World) (hl : n ≤ 1048576) (hI : IAt w a n l) (hTb : Tb w) :
    Calls Tryz.prog 134 #[.agg #[.slice a n cap, .int .i64 x, .int .i64 y]] w fun e w' => e = .returned (.agg #[.int .i64 (rtR l x y).1, .string (str (rtR l x y).2)]) ∧ Below w.heap.size w w' := by
  have hbx : Below w.heap.size w ((w.alloc (.cells #[.slice a n cap, .int .i64 x, .int .i64 y] 50)).alloc (.cells #[.int .i64 0, .string ByteArray.empty] 43)) := below_box2 _ _
  have T0 := show Hid (((w.alloc (.cells #[.slice a n cap, .int .i64 x, .int .i64 y] 50)).alloc (.cells #[.int .i64 0, .string ByteArray.empty] 43)).heap[w.heap.size]? = some (.cells #[.slice a n cap, .int .i64 x, .int .i64 y] 50 (0, 0))) from block_at2
  have T1 := show Hid (((w.alloc (.cells #[.slice a n cap, .int .i64 x, .int .i64 y] 50)).alloc (.cells #[.int .i64 0, .string ByteArray.empty] 43)).heap[w.heap.size + 1]? = some (.cells #[.int .i64 0, .string ByteArray.empty] 43 (0, 0))) from heap_alloc_at _ _ _ (by simp)
  have hF := iRuleFault_any n cap a l x y ((w.alloc (.cells #[.slice a n cap, .int .i64 x, .int .i64 y] 50)).alloc (.cells #[.int .i64 0, .string ByteArray.empty] 43)) hl (hI.below hbx (Nat.le_refl _))
  have HBX : Hid (Below w.heap.size w ((w.alloc (.cells #[.slice a n cap, .int .i64 x, .int .i64 y] 50)).alloc (.cells #[.int .i64 0, .string ByteArray.empty] 43))) := hbx
  have HI : Hid (IAt w a n l) := hI
  have HN : Hid (l.length = n) := hI.1
  have HTB : Hid (Tb w) := hTb
  obtain ⟨cd, hcd⟩ : ∃ c, c = ruleR l x y := ⟨_, rfl⟩
  rw [← hcd] at hF
  clear hbx hI hTb
  by_cases hz : cd = 0
  · subst hz
    have hr : rtR l x y = (0, rtxR l x y) := by unfold rtR; rw [← hcd, if_neg (by simp)]
    rw [hr]
    obtain ⟨b1, b2, b3, b4⟩ := ruleR_zero HN.out hcd.symm
    have hkk : ∀ k ∈ l, 0 ≤ k ∧ k ≤ 999 := fun k hk => by have := b4 k hk; omega
    have hl3 : l.length ≤ 3 := by rw [HN.out]; exact b1.2
    obtain ⟨dx, hdx⟩ : ∃ o, o = dec x := ⟨_, rfl⟩
    obtain ⟨dy, hdy⟩ : ∃ o, o = dec y := ⟨_, rfl⟩
    obtain ⟨ks, hks⟩ : ∃ o, o = keysT l := ⟨_, rfl⟩
    have hlx : dx.length ≤ 10 := by rw [hdx]; exact dec_len (by omega)
    have hly : dy.length ≤ 10 := by rw [hdy]; exact dec_len b3.2
    have hlk : ks.length ≤ 100 := by rw [hks]; exact keys_len hl3 hkk
    have HWX : Hid (∀ v, Below w.heap.size w v → Calls Tryz.prog 84 #[.int .i64 x] v fun e w' => e = .returned (.string (str dx)) ∧ Below v.heap.size v w') := fun v hv => by rw [hdx]; exact writeNumber_any (by omega) (by omega) v (HTB.out.below hv (Nat.le_refl _))
    have HWY : Hid (∀ v, Below w.heap.size w v → Calls Tryz.prog 84 #[.int .i64 y] v fun e w' => e = .returned (.string (str dy)) ∧ Below v.heap.size v w') := fun v hv => by rw [hdy]; exact writeNumber_any b3.1 b3.2 v (HTB.out.below hv (Nat.le_refl _))
    have HJN : Hid (∀ v, Below w.heap.size w v → Calls Tryz.prog 159 #[.func (.func 160) #[] #[.pointer (some ⟨v.heap.size, 0, none⟩)], .string ⟨#[44]⟩] (v.alloc (.cells #[.slice a n cap, .int .i64 x, .int .i64 y] 50)) fun e w' => e = .returned (.string (str ks)) ∧ Below v.heap.size v w') := fun v hv => by
      rw [hks]
      have hb := below_box (w := v) (.cells #[.slice a n cap, .int .i64 x, .int .i64 y] 50)
      have hbb := hv.trans (hb.mono hv.size)
      exact (joinNumbers_any v.heap.size n cap a l w _ b1.2 hkk HI.out hbb (by simp) (cells3 (heap_alloc_new v _)).1 (HTB.out.below hbb (Nat.le_refl _))).mono fun e w' ⟨e1, e2⟩ => ⟨e1, hb.trans (e2.mono (by simp))⟩
    have hof : ∀ q : List UInt8, str q ++ ⟨#[32, 111, 102, 32]⟩ = str (q ++ [32, 111, 102, 32]) := fun q => str_append q _
    have haf : ∀ q : List UInt8, (⟨#[32, 97, 102, 116, 101, 114, 32]⟩ : ByteArray) ++ str q = str (32 :: 97 :: 102 :: 116 :: 101 :: 114 :: 32 :: q) := fun q => str_append [32, 97, 102, 116, 101, 114, 32] q
    have happ : ∀ q r : List UInt8, str q ++ str r = str (q ++ r) := str_append
    have hss : ∀ q : List UInt8, (str q).size = q.length := fun _ => rfl
    have hz1 : ¬ 9223372036854775807 < dx.length + 4 := by omega
    have hz2 : ¬ 9223372036854775807 < dx.length + 4 + ks.length := by omega
    obtain ⟨rt, hrt⟩ : ∃ r, r = rtxR l x y := ⟨_, rfl⟩
    have HRT : Hid (rt = dx ++ [32, 111, 102, 32] ++ ks ++ (if y = 0 then [] else [32, 97, 102, 116, 101, 114, 32] ++ dy)) := by show _ = _; rw [hrt, hdx, hks, hdy]; rfl
    simp only
    rw [← hrt]
    clear hr hcd hdx hdy hks hrt b1 b2 b3 b4 hkk hl3
    go_enter Tryz.func134, Tryz.ntmps134
    go_wp2_with (first
      | (go_at_call 88; refine hF.mono ?_; clear hF; rintro e w2 ⟨rfl, hb2⟩; have HBW : Hid (Below w.heap.size w w2) := HBX.out.trans (hb2.mono (by simp; omega)); have HT2 := keepb T1.out hb2; have HP2 := keepb T0.out hb2; obtain ⟨p0, p1, p2⟩ := cells3 HP2.out; clear hb2))
    have hPl := lt_of_block HP2.out
    have hwx := HWX.out w2.drew (HBW.out.trans ((Below.refl _ _).drew.mono HBW.out.size))
    go_region_held3 (fun w' => w'.cell? ⟨w.heap.size, 0, none⟩ = some (.slice a n cap) ∧ w'.cell? ⟨w.heap.size, 1, none⟩ = some (.int .i64 x) ∧ w'.cell? ⟨w.heap.size, 2, none⟩ = some (.int .i64 y)) (go_keep)
      (first
        | (go_at_call 84; refine hwx.mono ?_; clear hwx; rintro e w3 ⟨rfl, hb3⟩; have HB3 : Hid (Below w2.heap.size w2 w3) := (Below.refl _ _).drew.trans hb3; have HB3w : Hid (Below w.heap.size w w3) := HBW.out.trans (HB3.out.mono HBW.out.size); obtain ⟨z0, z1, z2⟩ := cells3 (keepb HP2.out HB3.out).out; have hl3 := lt_of_block (keepb HP2.out HB3.out).out; have hjn := HJN.out w3 HB3w.out; clear hb3)
        | (go_at_call 136; refine (eachKey_any _ _ _ _ _ _).mono ?_; rintro e w4 ⟨rfl, hw4⟩; rw [← hw4] at hjn; have hb4 : Below w3.heap.size w3 w4 := (by rw [hw4]; exact below_box _); clear hw4; obtain ⟨y0, y1, y2⟩ := cells3 (keepb (keepb HP2.out HB3.out).out hb4).out)
        | (go_at_call 159; refine hjn.mono ?_; clear hjn; rintro e w5 ⟨rfl, hb5⟩; have HB5w : Hid (Below w.heap.size w w5) := HB3w.out.trans (hb5.mono HB3w.out.size); have HP5 := keepb (keepb HP2.out HB3.out).out hb5; have HT5 := keepb (keepb HT2.out HB3.out).out hb5; obtain ⟨u0, u1, u2⟩ := cells3 HP5.out))
    obtain ⟨o1, ho1⟩ : ∃ o, o = dx ++ 32 :: 111 :: 102 :: 32 :: ks := ⟨_, rfl⟩
    have hlo : o1.length ≤ 114 := by rw [ho1]; simp; omega
    have HRT2 : Hid (rt = o1 ++ (if y = 0 then [] else [32, 97, 102, 116, 101, 114, 32] ++ dy)) := by show _ = _; rw [HRT.out, ho1]; simp
    rw [← ho1]
    clear ho1 p0 p1 p2 z0 z1 z2 y0 y1 y2 hb4 hb5 HRT hz1 hz2 hof HJN HWX
    have hwy := HWY.out w5 HB5w.out
    obtain ⟨q0, q1, q2, q3, HR5⟩ := res_cells HT5.out (Below.refl _ w5) (lt_of_block HT5.out)
    by_cases hy0 : y = 0
    · subst hy0
      obtain rfl : rt = o1 := by rw [HRT2.out]; simp
      go_wp2
      obtain ⟨s0, s1, s2⟩ := two_set HR5.out (.int .i64 0) (.string (str rt))
      exact bodyPost_ret (v := .agg #[.int .i64 0, .string (str rt)]) (by simp [results, Tryz.results134, go_sem, s0, s1]) rfl ⟨rfl, below_res HB5w.out _ _⟩
    · have hyb : (y == 0) = false := by simpa using hy0
      have hz1 : ¬ 9223372036854775807 < 7 + dy.length := by omega
      have hz3 : ¬ 9223372036854775807 < dy.length + 7 := by omega
      have hz2 : ¬ 9223372036854775807 < o1.length + (dy.length + 7) := by omega
      have hz4 : ¬ 9223372036854775807 < o1.length + (7 + dy.length) := by omega
      have happ2 : str o1 ++ str (32 :: 97 :: 102 :: 116 :: 101 :: 114 :: 32 :: dy) = str rt := by rw [str_append, HRT2.out, if_neg hy0]; rfl
      clear q0 q1 q2 q3 happ HRT2
      go_wp2_with (go_at_call 84; refine hwy.mono ?_; rintro e w6 ⟨rfl, hb6⟩; obtain ⟨q0, q1, q2, q3, HR6⟩ := res_cells HT5.out hb6 (lt_of_block HT5.out))
      obtain ⟨s0, s1, s2⟩ := two_set HR6.out (.int .i64 0) (.string (str rt))
      exact bodyPost_ret (v := .agg #[.int .i64 0, .string (str rt)]) (by simp [results, Tryz.results134, go_sem, s0, s1]) rfl ⟨rfl, below_res (HB5w.out.trans (hb6.mono HB5w.out.size)) _ _⟩
  · have hr : rtR l x y = (cd, []) := by unfold rtR; rw [← hcd, if_pos hz]
    rw [hr]
    clear hr hcd
    go_enter Tryz.func134, Tryz.ntmps134
    go_wp2_with (first
      | (go_at_call 88; refine hF.mono ?_; rintro e w2 ⟨rfl, hb2⟩; obtain ⟨q0, q1, q2, q3, HR⟩ := res_cells T1.out hb2 (by simp); have HBW : Hid (Below w.heap.size w w2) := HBX.out.trans (hb2.mono (by simp; omega)); clear hb2))
    obtain ⟨s0, s1, s2⟩ := two_set HR.out (.int .i64 cd) (.string ⟨#[]⟩)
    exact bodyPost_ret (v := .agg #[.int .i64 cd, .string ⟨#[]⟩]) (by simp [results, Tryz.results134, go_sem, s0, s1]) rfl ⟨rfl, below_res HBW.out _ _⟩

end Go.Proofs.YtagokfoimokniaaGreatDoor

namespace Go.Proofs.YtagokfoimokniaaGreatDoor
open Go.RowKit Go.Maps Go.WideMaps

theorem outsR_zero {os : List Ou} (h : outsR os = 0) : ∀ o ∈ os, inB o.v 1 1000000 = true := by
  induction os with
  | nil => intro o ho; cases ho
  | cons a t ih =>
    rw [outsR] at h
    by_cases h1 : inB a.v 1 1000000 = false
    · rw [if_pos h1] at h; cases h
    · rw [if_neg h1] at h
      by_cases h2 : ruleR a.l a.x a.y ≠ 0
      · rw [if_pos h2] at h; exact absurd h h2
      · rw [if_neg h2] at h
        intro o ho
        rcases List.mem_cons.1 ho with rfl | ho
        · simpa using h1
        · exact ih h o ho
theorem txR_zero {k f : Int} {rs : List (Int × Int)} {os : List Ou} {m : Nat} (hm : os.length = m) (h : 0 = txR k f rs os) : m ≤ 4 ∧ ∀ j, j < m → 1 ≤ (os.getD j O0).v ∧ (os.getD j O0).v ≤ 1000000 := by
  unfold txR at h
  by_cases h1 : inB k 0 2 = false ∨ ¬ (k = 0 ↔ f = 0)
  · rw [if_pos h1] at h; cases h
  rw [if_neg h1] at h
  by_cases h2 : k ≠ 0 ∧ inB f 1 999 = false
  · rw [if_pos h2] at h; cases h
  rw [if_neg h2] at h
  by_cases h3 : inB rs.length 1 4 = false ∨ inB os.length 1 4 = false
  · rw [if_pos h3] at h; cases h
  rw [if_neg h3] at h
  have h4 : inB os.length 1 4 = true := by
    cases e : inB os.length 1 4
    · exact absurd (.inr e) h3
    · rfl
  by_cases h5 : refsR [] rs ≠ 0
  · rw [if_pos h5] at h; exact absurd h.symm h5
  rw [if_neg h5] at h
  unfold joinR at h
  by_cases h6 : outsR os ≠ 0
  · rw [if_pos h6] at h; exact absurd h.symm h6
  have h7 := outsR_zero (Classical.not_not.1 h6)
  have h8 := inB_true.1 h4
  refine ⟨by omega, fun j hj => ?_⟩
  have e1 : os.getD j O0 = os[j]'(by omega) := by rw [List.getD, List.getElem?_eq_getElem (by omega)]; rfl
  have := inB_true.1 (h7 (os.getD j O0) (by rw [e1]; exact List.getElem_mem _))
  exact this

def sumR (k f : Int) (rs : List (Int × Int)) (os : List Ou) : Int × Int := if txR k f rs os ≠ 0 then (txR k f rs os, 0) else (0, (os.map Ou.v).sum)

end Go.Proofs.YtagokfoimokniaaGreatDoor

namespace Go.Proofs.YtagokfoimokniaaGreatDoor
open Go.RowKit Go.Maps Go.WideMaps

end Go.Proofs.YtagokfoimokniaaGreatDoor

namespace Go.Proofs.YtagokfoimokniaaGreatDoor
open Go.RowKit Go.Shelf Go.Maps Go.WideMaps

theorem refsR_zero {rs : List (Int × Int)} : ∀ seen, refsR seen rs = 0 → ∀ r ∈ rs, refB r = true := by
  induction rs with
  | nil => intro _ _ r hr; cases hr
  | cons a t ih =>
    intro seen h
    rw [refsR] at h
    by_cases h1 : refB a = false
    · rw [if_pos h1] at h; cases h
    · rw [if_neg h1] at h
      by_cases h2 : memB seen a = true
      · rw [if_pos h2] at h; cases h
      · rw [if_neg h2] at h
        intro r hr
        rcases List.mem_cons.1 hr with rfl | hr
        · simpa using h1
        · exact ih _ h r hr
theorem outsR_rule {os : List Ou} (h : outsR os = 0) : ∀ o ∈ os, ruleR o.l o.x o.y = 0 := by
  induction os with
  | nil => intro o ho; cases ho
  | cons a t ih =>
    rw [outsR] at h
    by_cases h1 : inB a.v 1 1000000 = false
    · rw [if_pos h1] at h; cases h
    · rw [if_neg h1] at h
      by_cases h2 : ruleR a.l a.x a.y ≠ 0
      · rw [if_pos h2] at h; exact absurd h h2
      · rw [if_neg h2] at h
        intro o ho
        rcases List.mem_cons.1 ho with rfl | ho
        · exact Classical.not_not.1 h2
        · exact ih h o ho
theorem getD_mem {α : Type} {l : List α} {j : Nat} {d : α} (h : j < l.length) : l.getD j d ∈ l := by
  rw [List.getD, List.getElem?_eq_getElem h]
  exact List.getElem_mem _
theorem txOk_of {k f : Int} {rs : List (Int × Int)} {os : List Ou} (h : 0 = txR k f rs os) : TxOk k f rs os := by
  obtain ⟨hm4, hv⟩ := txR_zero rfl h
  unfold txR at h
  by_cases h1 : inB k 0 2 = false ∨ ¬ (k = 0 ↔ f = 0)
  · rw [if_pos h1] at h; cases h
  rw [if_neg h1] at h
  by_cases h2 : k ≠ 0 ∧ inB f 1 999 = false
  · rw [if_pos h2] at h; cases h
  rw [if_neg h2] at h
  by_cases h3 : inB rs.length 1 4 = false ∨ inB os.length 1 4 = false
  · rw [if_pos h3] at h; cases h
  rw [if_neg h3] at h
  have h4 : inB rs.length 1 4 = true := by
    cases e : inB rs.length 1 4
    · exact absurd (.inl e) h3
    · rfl
  by_cases h5 : refsR [] rs ≠ 0
  · rw [if_pos h5] at h; exact absurd h.symm h5
  rw [if_neg h5] at h
  unfold joinR at h
  by_cases h6 : outsR os ≠ 0
  · rw [if_pos h6] at h; exact absurd h.symm h6
  have hk := inB_true.1 (show inB k 0 2 = true by cases e : inB k 0 2; exact absurd (.inl e) h1; rfl)
  have hkf : k = 0 ↔ f = 0 := Classical.not_not.1 fun e => h1 (.inr e)
  have hn := inB_true.1 h4
  have hrs := refsR_zero [] (Classical.not_not.1 h5)
  have hos := outsR_rule (Classical.not_not.1 h6)
  refine ⟨by omega, ?_, by omega, hm4, fun j hj => ?_, fun j hj => ?_⟩
  · by_cases k0 : k = 0
    · have := hkf.1 k0; omega
    · have := inB_true.1 (show inB f 1 999 = true by cases e : inB f 1 999; exact absurd ⟨k0, e⟩ h2; rfl)
      omega
  · have := hrs _ (getD_mem (d := G0) hj)
    unfold refB at this
    have a := (Bool.and_eq_true _ _).mp this
    have a1 := inB_true.1 a.1
    have a2 := inB_true.1 a.2
    omega
  · have hr := hos _ (getD_mem (d := O0) hj)
    obtain ⟨b1, b2, b3, b4⟩ := ruleR_zero rfl hr
    have hvv := hv j hj
    exact ⟨⟨by omega, by omega⟩, b1, ⟨by omega, by omega⟩, b3, fun i hi => by have := b4 _ (getD_mem (d := 0) hi); omega⟩

def ttR (k f : Int) (rs : List (Int × Int)) (os : List Ou) : Int × List UInt8 := if txR k f rs os ≠ 0 then (txR k f rs os, []) else if 300 < (txT k f rs os).length then (2, []) else (0, txT k f rs os)

set_option maxHeartbeats 1000000 in
theorem sTxText_any (n c m d : Nat) (ia oa : Option Addr) (k f : Int) (rs : List (Int × Int)) (os : List Ou) (w : World) (hn : n ≤ 1048576) (hm : m ≤ 1048576) (hc1 : n ≤ c) (hc2 : c ≤ maxLen) (hk : ∀ j, j < m → (os.getD j O0).l.length ≤ 1048576) (h : TxAt w ia n oa m rs os) :
    Calls Tryz.prog 30 #[.agg #[.int .i64 k, .int .i64 f, .slice ia n c, .slice oa m d]] w fun e w' => e = .returned (.agg #[.int .i64 (ttR k f rs os).1, .string (str (ttR k f rs os).2)]) ∧ Below w.heap.size w w' := by
  have hbx : Below w.heap.size w ((w.alloc (.cells #[.int .i64 k, .int .i64 f, .slice ia n c, .slice oa m d] 32)).alloc (.cells #[.int .i64 0, .string ByteArray.empty] 43)) := below_box2 _ _
  have T0 := show Hid (((w.alloc (.cells #[.int .i64 k, .int .i64 f, .slice ia n c, .slice oa m d] 32)).alloc (.cells #[.int .i64 0, .string ByteArray.empty] 43)).heap[w.heap.size]? = some (.cells #[.int .i64 k, .int .i64 f, .slice ia n c, .slice oa m d] 32 (0, 0))) from block_at2
  have T1 := show Hid (((w.alloc (.cells #[.int .i64 k, .int .i64 f, .slice ia n c, .slice oa m d] 32)).alloc (.cells #[.int .i64 0, .string ByteArray.empty] 43)).heap[w.heap.size + 1]? = some (.cells #[.int .i64 0, .string ByteArray.empty] 43 (0, 0))) from heap_alloc_at _ _ _ (by simp)
  have hS := l3Fault_any w.heap.size n c m d ia oa k f rs os _ hn hm hc1 hc2 hk (h.below hbx (Nat.le_refl _)) T0.out
  have HBX : Hid (Below w.heap.size w ((w.alloc (.cells #[.int .i64 k, .int .i64 f, .slice ia n c, .slice oa m d] 32)).alloc (.cells #[.int .i64 0, .string ByteArray.empty] 43))) := hbx
  have HT : Hid (TxAt w ia n oa m rs os) := h
  clear hbx h hk
  obtain ⟨cd, hcd⟩ : ∃ c, c = txR k f rs os := ⟨_, rfl⟩
  rw [← hcd] at hS
  by_cases hz : cd = 0
  · subst hz
    have HOK : Hid (TxOk k f rs os) := txOk_of hcd
    obtain ⟨t, ht⟩ : ∃ t, t = txT k f rs os := ⟨_, rfl⟩
    have HTX : Hid (t = txT k f rs os) := ht
    have hss : (str t).size = t.length := rfl
    by_cases hlen : 300 < t.length
    · have hr : ttR k f rs os = (2, []) := by unfold ttR; rw [← hcd, if_neg (by simp), ← ht, if_pos hlen]
      rw [hr]
      clear hr hcd ht
      have hli : (300 : Int) < (t.length : Int) := by omega
      go_enter Tryz.func30, Tryz.ntmps30
      go_wp2_with (first
        | (go_at_call 28; refine hS.mono ?_; clear hS; rintro e w2 ⟨rfl, hb2⟩; have HT2 := keepb T1.out hb2; have HP2 := keepb T0.out hb2; have HBW : Hid (Below w.heap.size w w2) := HBX.out.trans (hb2.mono (by simp; omega)); obtain ⟨⟨p0, p1, p2, p3, _⟩, _⟩ := res4 T0.out hb2 (by simp; omega); have hsm := l3Text_any w.heap.size n c m d ia oa k f rs os w2 HOK.out (HT.out.below HBW.out (Nat.le_refl _)) (lt_of_block HP2.out) p0 p1 p2 p3; rw [← HTX.out] at hsm; clear hb2 p0 p1 p2 p3)
        | (go_at_call 67; refine hsm.mono ?_; clear hsm; rintro e w3 ⟨rfl, hb3⟩; have HBV : Hid (Below w.heap.size w w3) := HBW.out.trans (hb3.mono HBW.out.size); obtain ⟨q0, q1, q2, q3, HR⟩ := res_cells HT2.out hb3 (lt_of_block HT2.out); clear hb3))
      obtain ⟨s0, s1, s2⟩ := two_set HR.out (.int .i64 2) (.string ⟨#[]⟩)
      exact bodyPost_ret (v := .agg #[.int .i64 2, .string ⟨#[]⟩]) (by simp [results, Tryz.results30, go_sem, s0, s1]) rfl ⟨rfl, below_res HBV.out _ _⟩
    · have hr : ttR k f rs os = (0, t) := by unfold ttR; rw [← hcd, if_neg (by simp), ← ht, if_neg hlen]
      rw [hr]
      clear hr hcd ht
      have hli : ¬ (300 : Int) < (t.length : Int) := by omega
      go_enter Tryz.func30, Tryz.ntmps30
      go_wp2_with (first
        | (go_at_call 28; refine hS.mono ?_; clear hS; rintro e w2 ⟨rfl, hb2⟩; have HT2 := keepb T1.out hb2; have HP2 := keepb T0.out hb2; have HBW : Hid (Below w.heap.size w w2) := HBX.out.trans (hb2.mono (by simp; omega)); obtain ⟨⟨p0, p1, p2, p3, _⟩, _⟩ := res4 T0.out hb2 (by simp; omega); have hsm := l3Text_any w.heap.size n c m d ia oa k f rs os w2 HOK.out (HT.out.below HBW.out (Nat.le_refl _)) (lt_of_block HP2.out) p0 p1 p2 p3; rw [← HTX.out] at hsm; clear hb2 p0 p1 p2 p3)
        | (go_at_call 67; refine hsm.mono ?_; clear hsm; rintro e w3 ⟨rfl, hb3⟩; have HBV : Hid (Below w.heap.size w w3) := HBW.out.trans (hb3.mono HBW.out.size); obtain ⟨q0, q1, q2, q3, HR⟩ := res_cells HT2.out hb3 (lt_of_block HT2.out); clear hb3))
      obtain ⟨s0, s1, s2⟩ := two_set HR.out (.int .i64 0) (.string (str t))
      exact bodyPost_ret (v := .agg #[.int .i64 0, .string (str t)]) (by simp [results, Tryz.results30, go_sem, s0, s1]) rfl ⟨rfl, below_res HBV.out _ _⟩
  · have hr : ttR k f rs os = (cd, []) := by unfold ttR; rw [← hcd, if_pos hz]
    rw [hr]
    clear hr hcd
    go_enter Tryz.func30, Tryz.ntmps30
    go_wp2_with (first
      | (go_at_call 28; refine hS.mono ?_; rintro e w2 ⟨rfl, hb2⟩; obtain ⟨q0, q1, q2, q3, HR⟩ := res_cells T1.out hb2 (by simp); have HBW : Hid (Below w.heap.size w w2) := HBX.out.trans (hb2.mono (by simp; omega)); clear hb2))
    obtain ⟨s0, s1, s2⟩ := two_set HR.out (.int .i64 cd) (.string ⟨#[]⟩)
    exact bodyPost_ret (v := .agg #[.int .i64 cd, .string ⟨#[]⟩]) (by simp [results, Tryz.results30, go_sem, s0, s1]) rfl ⟨rfl, below_res HBW.out _ _⟩

theorem var_below {P : Program} {w w' : World} {nm : String} {cs : Array Value} (h : w.var? P nm = some cs) {B : Nat} (hb : Below B w w') (hB : w.heap.size ≤ B) : w'.var? P nm = some cs := by
  unfold World.var? at h ⊢
  cases hg : P.globalNamed nm with
  | none => simp [hg] at h
  | some g =>
    simp only [hg, Option.bind_some] at h ⊢
    have hlt : g < w.heap.size := by
      rcases Nat.lt_or_ge g w.heap.size with h' | h'
      · exact h'
      · simp [Array.getElem?_eq_none h'] at h
    rw [hb.block g (by omega)]
    exact h
/-- The package variables that the program's TxText reads: the table of powers, the kinds' names. -/
structure Ev (w : World) : Prop where
  tb : Tb w
  kn : w.var? Tryz.prog "loop.example/g00304/impl.kindNames" = some #[.string (str [112, 97, 121]), .string (str [106, 111, 105, 110]), .string (str [108, 101, 97, 118, 101])]
  mx : ∃ z : Int, w.cell? ⟨2, 0, none⟩ = some (.int .i64 z)
theorem Ev.below {w w' : World} (h : Ev w) {B : Nat} (hb : Below B w w') (hB : w.heap.size ≤ B) : Ev w' :=
  ⟨h.tb.below hb hB, var_below h.kn hb hB, by
    obtain ⟨z, hz⟩ := h.mx
    exact ⟨z, (hb.cell (p := ⟨2, 0, none⟩) (Nat.lt_of_lt_of_le (World.block_lt_of_cell? _ _ hz) hB)).trans hz⟩⟩

end Go.Proofs.YtagokfoimokniaaGreatDoor

namespace Go.Proofs.YtagokfoimokniaaGreatDoor
open Go.RowKit

theorem index_blank (l : List UInt8) : Lib.index (32 :: l) [32] = 0 := by
  unfold Lib.index
  simp [List.isPrefixOf]
theorem index_other {b : UInt8} (h : b ≠ 32) (l : List UInt8) : Lib.index (b :: l) [32] = if Lib.index l [32] == -1 then -1 else Lib.index l [32] + 1 := by
  have hb : (32 == b) = false := by simpa using fun e => h (Eq.symm e)
  conv => lhs; unfold Lib.index
  simp [List.isPrefixOf, hb]
theorem repl_other {b : UInt8} (h : b ≠ 32) (l new : List UInt8) (c : Nat) : Lib.replaceK [32] new c (b :: l) = b :: Lib.replaceK [32] new c l := by
  cases c with
  | zero => rfl
  | succ c =>
    rw [Lib.replaceK, Lib.replaceK, index_other h]
    by_cases e : (Lib.index l [32] == -1) = true
    · rw [if_pos e, if_pos e, if_pos (by rfl)]
    · rw [if_neg e]
      have hs := Lib.index_ge l [32]
      have hne : Lib.index l [32] ≠ -1 := by simpa using e
      obtain ⟨i, hi⟩ : ∃ i : Nat, Lib.index l [32] = i := ⟨(Lib.index l [32]).toNat, by omega⟩
      rw [hi]
      have h1 : ((i : Int) == -1) = false := by simp
      have h2 : ((i : Int) + 1 == -1) = false := by simp; omega
      have h3 : ((i : Int) + 1).toNat = i + 1 := by omega
      simp [h1, h2, h3]
theorem count_other {b : UInt8} (h : b ≠ 32) (l : List UInt8) (f : Nat) : Lib.countFrom [32] f (b :: l) = Lib.countFrom [32] f l := by
  cases f with
  | zero => rfl
  | succ f =>
    rw [Lib.countFrom, Lib.countFrom, index_other h]
    by_cases e : (Lib.index l [32] == -1) = true
    · rw [if_pos e, if_pos e, if_pos (by rfl)]
    · rw [if_neg e]
      have hs := Lib.index_ge l [32]
      have hne : Lib.index l [32] ≠ -1 := by simpa using e
      obtain ⟨i, hi⟩ : ∃ i : Nat, Lib.index l [32] = i := ⟨(Lib.index l [32]).toNat, by omega⟩
      rw [hi]
      have h1 : ((i : Int) == -1) = false := by simp
      have h2 : ((i : Int) + 1 == -1) = false := by simp; omega
      have h3 : ((i : Int) + 1).toNat = i + 1 := by omega
      simp [h1, h2, h3]
theorem repl_count (l : List UInt8) : ∀ f, l.length < f → Lib.replaceK [32] [95] (Lib.countFrom [32] f l) l = l.map swp := by
  induction l with
  | nil =>
    intro f _
    have : Lib.countFrom [32] f [] = 0 := by
      cases f with
      | zero => rfl
      | succ f => rfl
    rw [this]; rfl
  | cons b t ih =>
    intro f hf
    by_cases hb : b = 32
    · subst hb
      cases f with
      | zero => simp at hf
      | succ f =>
        have e1 : Lib.countFrom [32] (f + 1) (32 :: t) = Lib.countFrom [32] f t + 1 := by
          rw [Lib.countFrom, index_blank]
          simp [Nat.add_comm]
        rw [e1, Lib.replaceK, index_blank]
        have := ih f (by simp at hf; omega)
        simp [this, swp]
    · rw [count_other hb, repl_other hb, ih f (by simp at hf; omega)]
      simp [swp, hb]
theorem repl_swap (l : List UInt8) : Lib.replaceAll l [32] [95] = l.map swp := by
  have h : Lib.replaceNum l [32] (-1) = Lib.count l [32] := by unfold Lib.replaceNum; rw [if_pos (.inl (by omega))]
  unfold Lib.replaceAll Lib.replace
  rw [if_neg (by decide), h]
  exact repl_count l _ (Nat.lt_succ_self _)

end Go.Proofs.YtagokfoimokniaaGreatDoor

namespace Go.Proofs.YtagokfoimokniaaGreatDoor
open Go.RowKit Go.Shelf Go.Maps Go.WideMaps

theorem writeNumber_big {k : Int} (h0 : 0 ≤ k) (h1 : k ≤ 1000000) (w : World) (hT : Tb w) : Calls Tryz.prog 84 #[.int .i64 k] w fun e w' => e = .returned (.string (str (dec k))) ∧ Below w.heap.size w w' := by
  have hf := Tryz.strconv_FormatInt_10 k (by omega) (by omega) w hT
  have e1 : (⟨(Lib.itoa k).toArray⟩ : ByteArray) = str (dec k) := by
    obtain ⟨n, rfl⟩ := Int.eq_ofNat_of_zero_le h0
    rw [Lib.itoa_nonneg]; rfl
  rw [e1] at hf
  obtain ⟨s, hs⟩ : ∃ s, s = str (dec k) := ⟨_, rfl⟩
  rw [← hs] at hf ⊢
  clear hT e1 hs
  go_enter Tryz.func84, Tryz.ntmps84
  go_wp2_with (go_at_call 131; refine hf.mono ?_; rintro e w' ⟨rfl, q, os, rfl⟩)
  go_ret
  exact ⟨rfl, Lib.below_grow _ _ (Nat.le_refl _) _ _⟩

/-- What strings.ReplaceAll is owed to say here. -/
def RepAt (w : World) : Prop := ∀ (t : List UInt8) (W : World), t.length ≤ 1000 → Below w.heap.size w W → Calls Tryz.prog 133 #[.string (str t), .string ⟨#[32]⟩, .string ⟨#[95]⟩] W fun e w' => e = .returned (.string (str (t.map swp))) ∧ Below W.heap.size W w'
theorem RepAt.below {w w' : World} (h : RepAt w) (hb : Below w.heap.size w w') : RepAt w' := fun t W ht hW => h t W ht (hb.trans (hW.mono hb.size))

theorem fieldText (q : ByteArray) (W : World) : (Instr.field 43 (.agg #[.int .i64 0, .string q]) 1).run Tryz.prog W = .ok (.string q) W := by kernel_rfl
theorem keep4W {v v' : World} {P : Nat} {c0 c1 c2 c3 : Value} (hl : P < v.heap.size) (hb : Below v.heap.size v v') (h : v.cell? ⟨P, 0, none⟩ = some c0 ∧ v.cell? ⟨P, 1, none⟩ = some c1 ∧ v.cell? ⟨P, 2, none⟩ = some c2 ∧ v.cell? ⟨P, 3, none⟩ = some c3) : v'.cell? ⟨P, 0, none⟩ = some c0 ∧ v'.cell? ⟨P, 1, none⟩ = some c1 ∧ v'.cell? ⟨P, 2, none⟩ = some c2 ∧ v'.cell? ⟨P, 3, none⟩ = some c3 :=
  ⟨(hb.cell (p := ⟨P, 0, none⟩) hl).trans h.1, (hb.cell (p := ⟨P, 1, none⟩) hl).trans h.2.1, (hb.cell (p := ⟨P, 2, none⟩) hl).trans h.2.2.1, (hb.cell (p := ⟨P, 3, none⟩) hl).trans h.2.2.2⟩

set_option maxRecDepth 20000 in
set_option maxHeartbeats 1000000 in
theorem writeOut_any (u : Ou) (ka : Option Addr) (kn kc : Nat) (w : World) (hok : OutOk u) (hr : ruleR u.l u.x u.y = 0) (hkn : kn ≤ 1048576) (hI : IAt w ka kn u.l) (hTb : Tb w) (hRep : RepAt w) :
    Calls Tryz.prog 86 #[.agg #[.int .i64 u.v, .slice ka kn kc, .int .i64 u.x, .int .i64 u.y]] w fun e w' => e = .returned (.string (str (dec u.v ++ (61 :: (rtxR u.l u.x u.y).map swp)))) ∧ Below w.heap.size w w' := by
  obtain ⟨d1, hd1⟩ : ∃ z, z = dec u.v := ⟨_, rfl⟩
  obtain ⟨r1, hr1⟩ : ∃ z, z = rtxR u.l u.x u.y := ⟨_, rfl⟩
  obtain ⟨r2, hr2⟩ : ∃ z, z = r1.map swp := ⟨_, rfl⟩
  have hl1 : d1.length ≤ 10 := by rw [hd1]; exact dec_big hok.v.2
  have hlr : r1.length ≤ 100 := by rw [hr1]; exact rtx_len hok
  have hl2 : r2.length ≤ 100 := by rw [hr2]; simpa using hlr
  have hrt : rtR u.l u.x u.y = (0, r1) := by unfold rtR; rw [if_neg (by simp [hr]), hr1]
  rw [← hd1, ← hr1, ← hr2]
  obtain ⟨uv, huv⟩ : ∃ z, z = u.v := ⟨_, rfl⟩
  obtain ⟨ux, hux⟩ : ∃ z, z = u.x := ⟨_, rfl⟩
  obtain ⟨uy, huy⟩ : ∃ z, z = u.y := ⟨_, rfl⟩
  have hv := hok.v
  have hA : ∀ W, Below w.heap.size w W → Calls Tryz.prog 84 #[.int .i64 uv] W fun e w' => e = .returned (.string (str d1)) ∧ Below W.heap.size W w' := fun W hW => by rw [hd1, huv]; exact writeNumber_big hv.1 hv.2 W (hTb.below hW (Nat.le_refl _))
  have hB : ∀ W, Below w.heap.size w W → Calls Tryz.prog 134 #[.agg #[.slice ka kn kc, .int .i64 ux, .int .i64 uy]] W fun e w' => e = .returned (.agg #[.int .i64 0, .string (str r1)]) ∧ Below W.heap.size W w' := fun W hW => by
    have := iRuleText_any kn kc ka u.l u.x u.y W hkn (hI.below hW (Nat.le_refl _)) (hTb.below hW (Nat.le_refl _))
    rw [hrt] at this
    rw [hux, huy]
    exact this
  have hC : ∀ W, Below w.heap.size w W → Calls Tryz.prog 133 #[.string (str r1), .string ⟨#[32]⟩, .string ⟨#[95]⟩] W fun e w' => e = .returned (.string (str r2)) ∧ Below W.heap.size W w' := fun W hW => by rw [hr2]; exact hRep r1 W (by omega) hW
  rw [← huv, ← hux, ← huy]
  have hss : ∀ z : List UInt8, (str z).size = z.length := fun _ => rfl
  have happ : ∀ z r : List UInt8, str z ++ str r = str (z ++ r) := str_append
  have hc61 : ∀ z : List UInt8, str z ++ ⟨#[61]⟩ = str (z ++ [61]) := fun z => str_append z _
  have hfd := fieldText (str r1)
  have hz1 : ¬ 9223372036854775807 < d1.length + 1 := by omega
  have hz2 : ¬ 9223372036854775807 < d1.length + 1 + r2.length := by omega
  have hbx : Below w.heap.size w (w.alloc (.cells #[.int .i64 uv, .slice ka kn kc, .int .i64 ux, .int .i64 uy] 52)) := below_box _
  obtain ⟨W0, hW0⟩ : ∃ W0, W0 = w.alloc (.cells #[.int .i64 uv, .slice ka kn kc, .int .i64 ux, .int .i64 uy] 52) := ⟨_, rfl⟩
  have hP0 := heap_alloc_new w (.cells #[.int .i64 uv, .slice ka kn kc, .int .i64 ux, .int .i64 uy] 52)
  rw [← hW0] at hbx hP0
  obtain ⟨p0, p1, p2, p3, _⟩ := cells4 hP0
  have hl0 := lt_of_block hP0
  have HB0 : Hid (Below w.heap.size w W0) := hbx
  clear hd1 hr1 hr2 hrt huv hux huy hv hok hr hI hTb hRep hlr hbx hP0
  go_enter Tryz.func86, Tryz.ntmps86
  go_wp2
  rw [← hW0]
  clear hW0
  go_region_held3 (fun w' => w'.cell? ⟨w.heap.size, 0, none⟩ = some (.int .i64 uv) ∧ w'.cell? ⟨w.heap.size, 1, none⟩ = some (.slice ka kn kc) ∧ w'.cell? ⟨w.heap.size, 2, none⟩ = some (.int .i64 ux) ∧ w'.cell? ⟨w.heap.size, 3, none⟩ = some (.int .i64 uy)) (go_keep)
    (first
      | (go_at_call 84; refine (hA _ HB0.out.drew).mono ?_; rintro e w2 ⟨rfl, hb2⟩; obtain ⟨z0, z1, z2, z3⟩ := keep4W hl0 (show Below W0.heap.size W0 w2 from (Below.refl _ _).drew.trans hb2) ⟨p0, p1, p2, p3⟩; have hs2 : W0.heap.size ≤ w2.heap.size := hb2.size; have HB2 : Hid (Below w.heap.size w w2) := HB0.out.drew.trans (hb2.mono HB0.out.size))
      | (go_at_call 134; refine (hB _ HB2.out).mono ?_; rintro e w3 ⟨rfl, hb3⟩; obtain ⟨x0, x1, x2, x3⟩ := keep4W (Nat.lt_of_lt_of_le hl0 hs2) hb3 ⟨z0, z1, z2, z3⟩; have hs3 := Nat.le_trans hs2 hb3.size; have HB3 : Hid (Below w.heap.size w w3) := HB2.out.trans (hb3.mono HB2.out.size))
      | (go_at_call 133; refine (hC _ HB3.out).mono ?_; rintro e w4 ⟨rfl, hb4⟩; obtain ⟨v0, v1, v2, v3⟩ := keep4W (Nat.lt_of_lt_of_le hl0 hs3) hb4 ⟨x0, x1, x2, x3⟩; have HB4 : Hid (Below w.heap.size w w4) := HB3.out.trans (hb4.mono HB3.out.size)))
  go_wp2
  go_ret
  exact ⟨by simp, HB4.out⟩

end Go.Proofs.YtagokfoimokniaaGreatDoor

namespace Go.Proofs.YtagokfoimokniaaGreatDoor
open Go.RowKit Go.Shelf Go.Maps Go.WideMaps Go.Sort

set_option maxHeartbeats 1000000 in
theorem writeRef_any (p q : Int) (w : World) (hp : 0 ≤ p ∧ p ≤ 999) (hq : 0 ≤ q ∧ q ≤ 999) (hT : Tb w) :
    Calls Tryz.prog 132 #[.agg #[.int .i64 p, .int .i64 q]] w fun e w' => e = .returned (.string (str (refT (p, q)))) ∧ Below w.heap.size w w' := by
  have hmix : Tryz.prog.follows .mixedOrders = true := by kernel_rfl
  obtain ⟨d1, hd1⟩ : ∃ z, z = dec p := ⟨_, rfl⟩
  obtain ⟨d2, hd2⟩ : ∃ z, z = dec q := ⟨_, rfl⟩
  have hl1 : d1.length ≤ 10 := by rw [hd1]; exact dec_len hp.2
  have hl2 : d2.length ≤ 10 := by rw [hd2]; exact dec_len hq.2
  obtain ⟨W, hW⟩ : ∃ W, W = w.alloc (.cells #[.int .i64 p, .int .i64 q] 47) := ⟨_, rfl⟩
  have hb1 : Below w.heap.size w W := by rw [hW]; exact below_box _
  have hh1 : W.heap[w.heap.size]? = some (.cells #[.int .i64 p, .int .i64 q] 47 (0, 0)) := by rw [hW]; exact heap_alloc_new _ _
  obtain ⟨c0, c1⟩ := cells2 hh1
  have z0 := cell_regrown c0
  have z1 := cell_regrown c1
  have A1 : ∀ dd os, Calls Tryz.prog 84 #[.int .i64 p] (grow (redrawn W dd) os) fun e w'' => e = .returned (.string (str d1)) ∧ ∃ p : Regrown, w'' = grow (redrawn W p.d) p.os := fun dd os => Calls.regrown_of (by rw [hd1]; exact writeNumber_any hp.1 hp.2 _ (hT.below (hb1.trans ((below_regrown W dd os).mono hb1.size)) (Nat.le_refl _)))
  have A2 : ∀ dd os, Calls Tryz.prog 84 #[.int .i64 q] (grow (redrawn W dd) os) fun e w'' => e = .returned (.string (str d2)) ∧ ∃ p : Regrown, w'' = grow (redrawn W p.d) p.os := fun dd os => Calls.regrown_of (by rw [hd2]; exact writeNumber_any hq.1 hq.2 _ (hT.below (hb1.trans ((below_regrown W dd os).mono hb1.size)) (Nat.le_refl _)))
  have hss : ∀ z : List UInt8, (str z).size = z.length := fun _ => rfl
  have happ : ∀ z r : List UInt8, str z ++ str r = str (z ++ r) := str_append
  have hc58 : ∀ z : List UInt8, str z ++ ⟨#[58]⟩ = str (z ++ [58]) := fun z => str_append z _
  have g1 : ¬ 9223372036854775807 < d1.length + 1 := by omega
  have g2 : ¬ 9223372036854775807 < d1.length + 1 + d2.length := by omega
  have HR : Hid (refT (p, q) = d1 ++ (58 :: d2)) := by show _ = _; rw [hd1, hd2]; rfl
  clear hd1 hd2 hp hq hT hh1 c0 c1
  rw [HR.out]
  go_enter Tryz.func132, Tryz.ntmps132
  go_wp2_with fail
  rw [← hW]
  clear hW
  refine wp_region_quiet_below hmix (by kernel_rfl) ?_
  repeat (go_big_quiet_step (first | (with_reducible exact A1 _ _) | (with_reducible exact A2 _ _)))
  refine wpQuiet_nil ?_
  intro V hw'
  have hbV : Below W.heap.size W V := by
    obtain ⟨⟨dz, osz⟩, hw''⟩ := hw'
    rw [hw'']; exact below_regrown W dz osz
  clear hw' A1 A2
  go_wp2
  go_ret
  exact ⟨by simp, hb1.trans (hbV.mono hb1.size)⟩

end Go.Proofs.YtagokfoimokniaaGreatDoor

namespace Go.Proofs.YtagokfoimokniaaGreatDoor
open Go.RowKit

theorem join_flat (a : List UInt8) (t : List (List UInt8)) (sep : List UInt8) : Lib.join (a :: t) sep = a ++ t.flatMap fun x => sep ++ x := by
  unfold Lib.join
  induction t generalizing a with
  | nil => simp [List.intercalate]
  | cons b t ih =>
    have e : List.intercalate sep (a :: b :: t) = a ++ (sep ++ List.intercalate sep (b :: t)) := by simp [List.intercalate, List.intersperse]
    rw [e, ih b]
    simp

def outW (o : Ou) : List UInt8 := dec o.v ++ (61 :: (rtxR o.l o.x o.y).map swp)
def kindW (k f : Int) : List (List UInt8) := if k = 0 then [[112, 97, 121]] else if k = 1 then [[106, 111, 105, 110], dec f] else [[108, 101, 97, 118, 101], dec f]
def refsW (rs : List (Int × Int)) : List UInt8 := Lib.join (rs.map refT) [43]
def wordsT (k f : Int) (rs : List (Int × Int)) (os : List Ou) : List (List UInt8) := kindW k f ++ (refsW rs :: os.map outW)

theorem refsW_refsT {rs : List (Int × Int)} (h : rs ≠ []) : 32 :: refsW rs = refsT rs := by
  cases rs with
  | nil => exact absurd rfl h
  | cons r t =>
    unfold refsW refsT
    rw [List.map_cons, join_flat, List.flatMap_map]
    rfl
theorem join_words {k f : Int} {rs : List (Int × Int)} {os : List Ou} (hk : k = 0 ∨ k = 1 ∨ k = 2) (hr : rs ≠ []) : Lib.join (wordsT k f rs os) [32] = txT k f rs os := by
  have e := refsW_refsT hr
  have e2 : (os.map outW).flatMap (fun x => 32 :: x) = os.flatMap outT := by rw [List.flatMap_map]; rfl
  rcases hk with rfl | rfl | rfl <;> simp [wordsT, kindW, join_flat, txT, headT, kindT, ← e, e2]

end Go.Proofs.YtagokfoimokniaaGreatDoor

namespace Go.Proofs.YtagokfoimokniaaGreatDoor
open Go.RowKit Go.Shelf Go.Maps Go.WideMaps

def texts (ls : List (List UInt8)) : List Value := ls.map fun t => .string (str t)
theorem texts_more (ls : List (List UInt8)) (t : List UInt8) : texts (ls ++ [t]) = texts ls ++ [.string (str t)] := by simp [texts]

/-- A word more: what the append leaves. -/
theorem word_added {W w2 : World} {B k : Nat} {v : Value} {xs : List Value} (s : ByteArray) (hrow : W.ownsRow B 9 1 v k xs) (hb : Below W.heap.size W w2) (hB : B ≤ W.heap.size) (hk : k ≤ 100) :
    ∃ g cap w3, (Builtin.append_ #[24, 24] 24 #[v, .slice (some ⟨w2.heap.size, 0, none⟩) 1 1]).run Tryz.prog (w2.alloc (.cells #[.string s] 9)) = .ok (.slice (some ⟨g, 0, none⟩) (k + 1) cap) w3 ∧
      Hid (w3.ownsRow B 9 1 (.slice (some ⟨g, 0, none⟩) (k + 1) cap) (k + 1) (xs ++ [.string s]) ∧ Below B W w3) := by
  obtain ⟨i0, hi, hz0, hz1, hz2⟩ := info_parts Tryz.infoStr
  have hg2 := grown_of_below hb
  have hrow2 : w2.ownsRow B 9 1 v k xs := hrow.kept hg2 (by cases Value.ownBlock v <;> simp)
  have hs2 := hb.size
  obtain ⟨v', w3, hrun, hown', hgrow, _⟩ := run_append_own (P := Tryz.prog) (w2.alloc (.cells #[.string s] 9)) B 24 24 9 i0 (.string ByteArray.empty) 1 16 Tryz.underlying24 hi hz0 hz1 hz2 rfl (by decide) v k _ (hrow2.alloc _) ⟨w2.heap.size, 0, none⟩ 1 1 [.string s] rfl (cell_one_new _ _ _) (by simp [Value.oneCell']) (by unfold maxLen; omega) (by omega) (by simp; omega)
  obtain ⟨g, cap, rfl⟩ := ownsRow_succ hown'
  refine ⟨g, cap, w3, hrun, hown', ?_⟩
  exact Below.grown ((hb.mono hB).trans ((below_box _).mono (by omega))) hgrow (by simp; omega) (fun q hq => (hrow.lt q hq).1)

/-- An append as one step of a region that draws, out of its own run. -/
theorem step_append_run {P : Program} {w : World} {ops : Array Oper} {o : Oper} {a : Act} {K : Act → World → Prop} {Q : Exit → Act → World → Prop} {E : Prop} (hgd : o.guard = none) (s x : Operand) (t : TypeId)
    (hop : o.op = .call { callee := .builtin .append, args := #[s, x], argTypes := #[t, t] }) {v u v' : Value} {w' : World} (hs : a.eval s = v) (hx : a.eval x = u) (hrun : (Builtin.append_ #[t, t] o.type #[v, u]).run P w = .ok v' w') (h : K (a.put o.dst v') w') :
    if Region.wanted o (yielded ops a.tmps) = true then Oper.wp P o a w K Q else E := by
  rw [if_pos (by simp [Region.wanted, hgd])]
  unfold Oper.wp
  simp [execOp, hop, resolve, invoke, builtin, hs, hx, hrun, Result.andThen]
  exact h

/-- An append in a plain region, out of its own run. -/
theorem wpList_append_runT {P : Program} {w : World} {ops : Array Oper} {rest : List Oper} {o : Oper} {a : Act} {Q : Exit → Act → World → Prop} (hgd : o.guard = none) (s x : Operand) (t : TypeId)
    (hop : o.op = .call { callee := .builtin .append, args := #[s, x], argTypes := #[t, t] }) {v u v' : Value} {w' : World} (hs : a.eval s = v) (hx : a.eval x = u) (hrun : (Builtin.append_ #[t, t] o.type #[v, u]).run P w = .ok v' w') (h : wpList P ops Q rest (a.put o.dst v') w') :
    wpList P ops Q (o :: rest) a w :=
  wpList_plain hgd fun _ hK => by
    unfold Oper.wp
    simp [execOp, hop, resolve, invoke, builtin, hs, hx, hrun, Result.andThen]
    exact hK _ _ h

/-- Words joined. -/
theorem join_any (c : UInt8) (v : Value) (W : World) {ls : List (List UInt8)} {n base : Nat} (hrow : W.ownsRow base 9 1 v n (texts ls)) (hn : n = ls.length) (h3 : ls.length ≤ 100) (htot : (Lib.join ls [c]).length ≤ 100000) :
    Calls Tryz.prog 37 #[v, .string ⟨#[c]⟩] W fun e w' => e = .returned (.string (str (Lib.join ls [c]))) ∧ Below W.heap.size W w' := by
  subst hn
  have hmap : (ls.map str).map (·.data.toList) = ls := by
    rw [List.map_map]
    conv => rhs; rw [← List.map_id ls]
    apply List.map_congr_left
    intro k _
    simp [str]
  rcases id hrow.2 with ⟨rfl, h0⟩ | ⟨g, cp, cur, rfl, _, _, h1, _⟩
  · obtain rfl : ls = [] := List.length_eq_zero_iff.1 h0
    exact (Tryz.strings_Join_none none 0 ⟨#[c]⟩ W).mono fun e w' ⟨he, hw⟩ => ⟨he, hw ▸ Below.refl _ _⟩
  · have hJ := Tryz.strings_Join g 0 cp (ls.map str) ⟨#[c]⟩ W (fun j x hj => by
      have hjl : j < ls.length := by
        have := (List.getElem?_eq_some_iff.1 hj).1
        simpa using this
      rw [Nat.zero_add, hrow.cellAt j (by omega)]
      simp [texts]
      simp at hj
      obtain ⟨a, ha, rfl⟩ := hj
      exact ⟨a, ha, rfl⟩) (hrow.lt g rfl).2 (by simp; omega) (by simpa using h1) (by
        show (Lib.join _ [c]).length ≤ _
        rw [hmap]
        omega)
    rw [List.length_map] at hJ
    refine hJ.mono fun e w' ⟨he, hb⟩ => ⟨?_, hb⟩
    rw [he]
    show Ending.returned (.string ⟨(Lib.join _ [c]).toArray⟩) = _
    rw [hmap]
    rfl

theorem refT_len {r : Int × Int} (h1 : r.1 ≤ 999) (h2 : r.2 ≤ 999) : (refT r).length ≤ 21 := by
  have a := dec_len h1
  have b := dec_len h2
  simp [refT]; omega
theorem flat_len {α : Type} (f : α → List UInt8) (b : Nat) : ∀ l : List α, (∀ x ∈ l, (f x).length ≤ b) → (l.flatMap f).length ≤ b * l.length := by
  intro l
  induction l with
  | nil => intro _; simp
  | cons a t ih =>
    intro h
    have h1 := h a (by simp)
    have h2 := ih fun x hx => h x (by simp [hx])
    rw [List.flatMap_cons, List.length_append, List.length_cons, Nat.mul_add]
    omega
theorem refsW_len {rs : List (Int × Int)} (hn : rs.length ≤ 4) (h : ∀ r ∈ rs, r.1 ≤ 999 ∧ r.2 ≤ 999) : (refsW rs).length ≤ 200 := by
  cases rs with
  | nil => simp [refsW, Lib.join, List.intercalate]
  | cons a t =>
    unfold refsW
    rw [List.map_cons, join_flat, List.flatMap_map]
    have h1 := refT_len (h a (by simp)).1 (h a (by simp)).2
    have h2 := flat_len (fun r => [43] ++ refT r) 22 t fun r hr => by
      have := refT_len (h r (by simp [hr])).1 (h r (by simp [hr])).2
      simp; omega
    simp at hn
    rw [List.length_append]
    have h3 : (t.flatMap (fun r => [43] ++ refT r)).length = (List.flatMap (fun a => [43] ++ refT a) t).length := rfl
    omega

set_option maxRecDepth 20000 in
set_option maxHeartbeats 2000000 in
theorem writeRefs_any (n c : Nat) (ia : Option Addr) (rs : List (Int × Int)) (w : World) (hn4 : n ≤ 4) (hrb : ∀ j, j < n → (0 ≤ (rs.getD j G0).1 ∧ (rs.getD j G0).1 ≤ 999) ∧ 0 ≤ (rs.getD j G0).2 ∧ (rs.getD j G0).2 ≤ 999) (h : GAt w ia n rs) (hTb : Tb w) :
    Calls Tryz.prog 85 #[.slice ia n c] w fun e w' => e = .returned (.string (str (refsW rs))) ∧ Below w.heap.size w w' := by
  have HN : Hid (rs.length = n) := h.1
  have HG : Hid (GAt w ia n rs) := h
  have HR : Hid (∀ j, j < n → (0 ≤ (rs.getD j G0).1 ∧ (rs.getD j G0).1 ≤ 999) ∧ 0 ≤ (rs.getD j G0).2 ∧ (rs.getD j G0).2 ≤ 999) := hrb
  have HTB : Hid (Tb w) := hTb
  obtain ⟨rt, hrt⟩ : ∃ q, q = refsW rs := ⟨_, rfl⟩
  rw [← hrt]
  have HRT : Hid (rt = refsW rs) := hrt
  clear h hrb hTb hrt
  go_enter Tryz.func85, Tryz.ntmps85
  go_wp2
  go_loopw [3, 8] (fun v i wr => ∃ j : Nat, j ≤ n ∧ i = .int .i64 j ∧ Hid (wr.ownsRow w.heap.size 9 1 v j (texts ((rs.take j).map refT))) ∧ Below w.heap.size w wr) (fun _ i _ => n - (intOf i).toNat)
  case atStart => exact ⟨0, Nat.zero_le _, rfl, by show World.ownsRow _ _ _ _ _ _ _; simp [texts]; exact World.ownsRow_nil _ _ _ _, Below.refl _ _⟩
  case round =>
    obtain ⟨j, hj, rfl, HO, hbel⟩ := hrel
    by_cases hlt : j < n
    · rcases HG.out.2 with h0 | ⟨b, off, e0, l0, d0⟩
      · omega
      subst e0
      obtain ⟨g, hg⟩ : ∃ g, g = rs.getD j G0 := ⟨_, rfl⟩
      have hcx := d0 j hlt
      have hrb := HR.out j hlt
      rw [← hg] at hcx hrb
      obtain ⟨g1, g2⟩ := g
      have c0 := (hbel.cell (p := ⟨b, off + j * 2, none⟩) l0).trans hcx.1
      have c1 := (hbel.cell (p := ⟨b, off + j * 2 + 1, none⟩) l0).trans hcx.2
      obtain ⟨d, hd⟩ : ∃ o, o = refT (g1, g2) := ⟨_, rfl⟩
      have hb1 : Below wr.heap.size wr (wr.alloc (.cells #[.int .i64 g1, .int .i64 g2] 47)) := below_box _
      have hA : Calls Tryz.prog 132 #[.agg #[.int .i64 g1, .int .i64 g2]] (wr.alloc (.cells #[.int .i64 g1, .int .i64 g2] 47)) fun e w' => e = .returned (.string (str d)) ∧ Below (wr.alloc (.cells #[.int .i64 g1, .int .i64 g2] 47)).heap.size (wr.alloc (.cells #[.int .i64 g1, .int .i64 g2] 47)) w' := by rw [hd]; exact writeRef_any g1 g2 _ hrb.1 hrb.2 (HTB.out.below (hbel.trans (hb1.mono hbel.size)) (Nat.le_refl _))
      have HX : Hid ((rs.take (j + 1)).map refT = (rs.take j).map refT ++ [d]) := by
        show _ = _
        rw [take_next2 HN.out hlt hg, List.map_append, hd]
        rfl
      have HB1 : Hid (Below wr.heap.size wr (wr.alloc (.cells #[.int .i64 g1, .int .i64 g2] 47))) := hb1
      clear hg hd hrb hcx d0 hb1
      have hki : (j : Int) < (n : Int) := by omega
      go_wp2_with (first
        | (go_at_call 132; (with_reducible refine hA.mono ?_); clear hA; rintro e w2 ⟨rfl, hb2⟩; obtain ⟨ga, gc, w4, hrun, HW⟩ := word_added (str d) HO.out (HB1.out.trans (hb2.mono HB1.out.size)) hbel.size (by omega); clear hb2)
        | (at_builtin; go_must (refine wpList_append_runT (by rfl) _ _ _ (by rfl) (by rfl) (by rfl) hrun ?_); clear hrun))
      go_roundw
      case rel => exact ⟨j + 1, by omega, by go_num, by show World.ownsRow _ _ _ _ _ _ _; rw [HX.out, texts_more]; exact HW.out.1, hbel.trans HW.out.2⟩
      case measure => simp [intOf]; omega
    · have e1 : rs.take j = rs := List.take_of_length_le (by rw [HN.out]; omega)
      have hjn : j = n := by omega
      have HO2 := HO.out
      rw [e1] at HO2
      have hJ := join_any 43 u3 wr HO2 (by rw [List.length_map, HN.out]; exact hjn) (by rw [List.length_map, HN.out]; omega) (by
        have := refsW_len (rs := rs) (by rw [HN.out]; exact hn4) (fun r hr => by
          obtain ⟨i, hi, e⟩ := List.getElem_of_mem hr
          have h1 := HR.out i (by rw [← HN.out]; exact hi)
          have h2 : rs.getD i G0 = r := by rw [List.getD, List.getElem?_eq_getElem hi, ← e]; rfl
          rw [h2] at h1
          exact ⟨h1.1.2, h1.2.2⟩)
        unfold refsW at this
        omega)
      have hJ2 : Calls Tryz.prog 37 #[u3, .string ⟨#[43]⟩] wr fun e w' => e = .returned (.string (str rt)) ∧ Below wr.heap.size wr w' := by rw [HRT.out]; exact hJ
      clear hJ e1 HO2
      go_wp2_with (go_at_call 37; refine hJ2.mono ?_; rintro e w5 ⟨rfl, hb5⟩)
      go_ret
      exact ⟨rfl, hbel.trans (hb5.mono hbel.size)⟩

end Go.Proofs.YtagokfoimokniaaGreatDoor

namespace Go.Proofs.YtagokfoimokniaaGreatDoor
open Go.RowKit

section
variable {P : Program} {md : Region.Mode} {ops : Array Oper} {Q : Exit → Act → World → Prop}
theorem count_set_lt {l : List Bool} {i : Nat} (h : l[i]? = some false) : (l.set i true).count false + 1 = l.count false := by
  induction l generalizing i with
  | nil => simp at h
  | cons b t ih =>
    cases i with
    | zero =>
      simp at h
      subst h
      simp
    | succ i =>
      simp at h
      have := ih h
      cases b <;> simp at this ⊢ <;> omega
theorem listed_false {L : Array Bool} {i : Nat} (h : L.getD i true = false) : L.toList[i]? = some false := by
  by_cases hi : i < L.size
  · simp [Array.getD, hi] at h
    simp [hi, h]
  · simp [Array.getD, hi] at h
theorem wpAny_inv (Inv : Array Bool → Act → World → Prop)
    (hs : ∀ L a w i, Inv L a w → i ∈ Region.ready md ops L → wpOp P ops Q i (Inv (L.setIfInBounds i true)) a w)
    (he : ∀ L a w, Inv L a w → Region.ready md ops L = [] → Q .normal a w) :
    ∀ (fuel : Nat) (L : Array Bool) (a : Act) (w : World), L.toList.count false ≤ fuel → Inv L a w → wpAny P md ops Q fuel L a w
  | 0, L, a, w, hc, hI => by
    have hr : Region.ready md ops L = [] := by
      refine List.eq_nil_iff_forall_not_mem.2 fun i hi => ?_
      have h1 := listed_false (mem_ready.1 hi).1
      have h2 := List.count_pos_iff.2 (List.mem_of_getElem? h1)
      omega
    exact ⟨hr, he L a w hI hr⟩
  | fuel + 1, L, a, w, hc, hI => by
    refine ⟨fun h0 => he L a w hI h0, fun i hi => wpOp_mono (fun a' w' h' => wpAny_inv Inv hs he fuel _ a' w' ?_ h') (hs L a w i hI hi)⟩
    have h1 := count_set_lt (listed_false (mem_ready.1 hi).1)
    rw [Array.toList_setIfInBounds]
    omega
/-- Each waits for earlier ones alone. -/
def backB (md : Region.Mode) (ops : Array Oper) : Bool := (List.range ops.size).all fun i => match ops[i]? with
  | some o => o.after.toList.all fun e => !Region.binds md e || decide (e.on < i)
  | none => true
theorem ready_all {L : Array Bool} (hb : backB md ops = true) (h : Region.ready md ops L = []) : ∀ i, i < ops.size → L.getD i true = true := by
  intro i
  induction i using Nat.strongRecOn with
  | ind i ih =>
    intro hi
    cases hL : L.getD i true with
    | true => rfl
    | false =>
      exfalso
      have ho : ops[i]? = some ops[i] := Array.getElem?_eq_getElem hi
      have : i ∈ Region.ready md ops L := mem_ready.2 ⟨hL, _, ho, fun e he hbi => by
        unfold backB at hb
        rw [List.all_eq_true] at hb
        have h1 := hb i (List.mem_range.2 hi)
        rw [ho] at h1
        simp only [List.all_eq_true] at h1
        have h2 : e.on < i := by
          have h0 := h1 e (by simpa using he)
          rw [hbi] at h0
          simpa using h0
        have h3 := ih e.on h2 (by omega)
        have h4 := listed_false hL
        have h5 : i < L.size := by
          have := (List.getElem?_eq_some_iff.1 h4).1
          simpa using this
        simp [Array.getD, show e.on < L.size by omega] at h3 ⊢
        exact h3⟩
      rw [h] at this
      cases this
/-- Does one wait for another? -/
def depB (md : Region.Mode) (ops : Array Oper) (i d : Nat) : Bool := match ops[i]? with
  | some o => o.after.toList.any fun e => Region.binds md e && e.on == d
  | none => false
theorem ready_dep {L : Array Bool} {i d : Nat} (hi : i ∈ Region.ready md ops L) (hd : depB md ops i d = true) : L.getD d false = true := by
  obtain ⟨_, o, ho, ha⟩ := mem_ready.1 hi
  unfold depB at hd
  rw [ho] at hd
  simp only [List.any_eq_true, Bool.and_eq_true, beq_iff_eq] at hd
  obtain ⟨e, he, h1, h2⟩ := hd
  rw [← h2]
  exact ha e (by simpa using he) h1
theorem ready_lt {L : Array Bool} {i : Nat} (hi : i ∈ Region.ready md ops L) : i < ops.size := by
  obtain ⟨_, o, ho, _⟩ := mem_ready.1 hi
  exact (Array.getElem?_eq_some_iff.1 ho).1
theorem ready_new {L : Array Bool} {i : Nat} (hi : i ∈ Region.ready md ops L) : L.getD i true = false := (mem_ready.1 hi).1
theorem wpOp_run {i : Nat} {o : Oper} {a : Act} {w : World} {K : Act → World → Prop} (ho : ops[i]? = some o)
    (h : ∀ K' : Act → World → Prop, (∀ a w, K a w → K' a w) → if Region.wanted o (yielded ops a.tmps) = true then Oper.wp P o a w K' Q else K' (a.put o.dst undef) w) : wpOp P ops Q i K a w := by
  unfold wpOp
  rw [ho]
  have := h K (fun _ _ h => h)
  simp only
  split
  · rename_i hw
    rw [if_pos hw] at this
    exact .inl this
  · rename_i hw
    rw [if_neg hw] at this
    exact this
end

end Go.Proofs.YtagokfoimokniaaGreatDoor

namespace Go.Proofs.YtagokfoimokniaaGreatDoor
open Go.RowKit Go.Shelf Go.Maps Go.WideMaps
section
variable {w w2 W v:World} {b c:Nat} {c0 c1 c2:Value} {t:TypeId}
theorem three_heapK (hne:c≠b) (v0 v1 v2:Value):(((w.setCell ⟨b,0,none⟩ v0).setCell ⟨b,1,none⟩ v1).setCell ⟨b,2,none⟩ v2).heap[c]? =w.heap[c]? :=
 (Below.heap_setCell _ ⟨b,2,none⟩ _ c hne).trans ((Below.heap_setCell _ ⟨b,1,none⟩ _ c hne).trans (Below.heap_setCell _ ⟨b,0,none⟩ _ c hne))
end
structure Dk (w v V:World) (SB:Nat) (ca:Option Addr) (cn cc t LB:Nat) (va:Option Addr) (vc:Nat) (l:List Int) (x y:Int):Prop where
 box:V.heap[LB]? =some (.cells #[.slice va l.length vc,.int .i64 x,.int .i64 y] 50 (0,0))
 res:V.heap[v.heap.size]? =some (.cells #[.slice none 0 0,.int .i64 0,.int .i64 0] 50 (0,0))
 src:Src w V SB ca cn cc t
 chg:Chg v V SB (SB+1)
 row:V.ownsRow (v.heap.size+1) 2 1 (.slice va l.length vc) l.length (ints l)
 ord:SB<v.heap.size∧v.heap.size<LB
theorem intk_added {W:World} {lo X j:Nat} {v:Value} {ks:List Int} {k:Int} (h:W.ownsRow lo 2 1 v j (ints ks)) (hX:W.heap[X]? =some (.cells #[.int .i64 k] 2 (0,0))) (hj:j≤1000) (hlo:lo≤W.heap.size):
 ∃g cap w5,(Builtin.append_ #[48,48] 48 #[v,.slice (some ⟨X,0,none⟩) 1 1]).run Tryz.prog W= .ok (.slice (some ⟨g,0,none⟩) (j+1) cap) w5∧
  Hid (w5.ownsRow lo 2 1 (.slice (some ⟨g,0,none⟩) (j+1) cap) (j+1) (ints (ks++[k]))∧W.grownBy w5 v.ownBlock):=by
 obtain ⟨i0,hi,hz0,hz1,hz2⟩:=info_parts Tryz.infoI64
 obtain ⟨v',w5,hrun,hown',hgrow,hsome⟩:=run_append_own (P:=Tryz.prog) W lo 48 48 2 i0 (.int .i64 0) 1 8 Tryz.underlying48 hi hz0 hz1 hz2 rfl (by decide) v j (ints ks) h ⟨X,0,none⟩ 1 1 [.int .i64 k] rfl (World.news_of_block hX) (by
  intro z hz
  simp only[List.mem_cons,List.not_mem_nil,or_false] at hz
  subst hz;rfl) (by unfold maxLen;omega) (by omega) hlo
 obtain ⟨g,cap,rfl⟩:=ownsRow_succ hown'
 refine ⟨g,cap,w5,hrun,?_,hgrow⟩
 rw[show ints (ks++[k])=ints ks++[.int .i64 k] by simp[ints]]
 exact hown'
theorem row_neR {V:World} {base n c LB:Nat} {a:Option Addr} {xs cs:List Value} {fz:Nat×Nat} (hr:V.ownsRow base 2 1 (.slice a n c) n xs) (hb:V.heap[LB]? =some (.cells cs.toArray 50 fz)):∀b,Value.ownBlock (.slice a n c)=some b→b≠LB:=by
 intro b hbb e
 subst e
 rcases hr.2 with ⟨e1,_⟩|⟨g,cap,cur,e1,_,h2,_⟩
 ·rw[e1] at hbb;cases hbb
 ·rw[e1] at hbb
  have e2:g=b:=by simpa [Value.ownBlock] using hbb
  subst e2
  rw[h2] at hb
  have:=Option.some.inj hb
  injection this with _ e3
  exact absurd e3 (by decide)
section
variable {w v V V':World} {SB:Nat} {ca:Option Addr} {cn cc t t' LB:Nat} {va:Option Addr} {vc:Nat} {l:List Int} {x y:Int}
theorem chgMoreK {lo hi B:Nat} (h:Chg v V lo hi) (hb:Below B V V') (hB:v.heap.size≤B):Chg v V' lo hi:=⟨hb.os.trans h.os,hb.tape.trans h.tape,hb.output.trans h.output,Nat.le_trans h.size hb.size,fun b hbs ho=>(hb.block b (by omega)).trans (h.block b hbs ho)⟩
theorem Dk.step (H:Dk w v V SB ca cn cc t LB va vc l x y) (hb:Below V.heap.size V V'):Dk w v V' SB ca cn cc t LB va vc l x y:=
 ⟨(keepb H.box hb).out,(keepb H.res hb).out,H.src.step hb,chgMoreK H.chg hb H.chg.size,H.row.kept (grown_of_below hb) (by cases Value.ownBlock (.slice va l.length vc)<;>simp),H.ord⟩
theorem Dk.draw (H:Dk w v V SB ca cn cc t LB va vc l x y) (hS:Src w V' SB ca cn cc t') (hc:Chg V V' SB (SB+1)):Dk w v V' SB ca cn cc t' LB va vc l x y:=by
 have:=H.ord
 exact ⟨hc.keep1 H.box (by omega),hc.keep1 H.res (by omega),hS,H.chg.trans hc,hc.row1 H.row (by omega),H.ord⟩
theorem Dk.lt (H:Dk w v V SB ca cn cc t LB va vc l x y):LB<V.heap.size:=lt_of_block H.box
theorem Dk.cells (H:Dk w v V SB ca cn cc t LB va vc l x y):V.cell? ⟨LB,0,none⟩=some (.slice va l.length vc)∧V.cell? ⟨LB,1,none⟩=some (.int .i64 x)∧V.cell? ⟨LB,2,none⟩=some (.int .i64 y):=cells3 H.box
theorem Dk.fz (H:Dk w v V SB ca cn cc t LB va vc l x y) (i:Nat):V.frozen? ⟨LB,i,none⟩=false:=Joins.unfrozen_of_block H.box i
theorem Dk.ne (H:Dk w v V SB ca cn cc t LB va vc l x y):∀b,Value.ownBlock (.slice va l.length vc)=some b→b≠LB:=row_neR (cs:=[.slice va l.length vc,.int .i64 x,.int .i64 y]) H.row H.box
theorem Dk.setk {x' y':Int} {i:Nat} {u:Value} (H:Dk w v V SB ca cn cc t LB va vc l x y) (hq:(#[.slice va l.length vc,.int .i64 x,.int .i64 y]:Array Value).setIfInBounds i u=#[.slice va l.length vc,.int .i64 x',.int .i64 y']):Dk w v (V.setCell ⟨LB,i,none⟩ u) SB ca cn cc t LB va vc l x' y':=by
 have ho:=H.ord
 refine ⟨?_,(Below.heap_setCell _ ⟨LB,i,none⟩ _ v.heap.size (show v.heap.size≠LB by omega)).trans H.res,?_,?_,ownsRow_setCell_other H.row (a:=⟨LB,i,none⟩) (fun e=>H.ne _ e rfl) u,ho⟩
 ·have:=Joins.block_setCell (i:=i) H.box u
  rw[hq] at this
  exact this
 ·exact ⟨(Below.heap_setCell _ ⟨LB,i,none⟩ _ SB (show SB≠LB by omega)).trans H.src.box,H.src.bel.setCell (p:=⟨LB,i,none⟩) (show w.heap.size≤LB by have:=H.src.sb;omega) _,H.src.sb⟩
 ·exact ⟨H.chg.os,H.chg.tape,H.chg.output,by simpa using H.chg.size,fun b hb hd=>(Below.heap_setCell _ ⟨LB,i,none⟩ _ b (show b≠LB by omega)).trans (H.chg.block b hb hd)⟩
theorem Dk.other {l':List Int} {a':Option Addr} {c':Nat} (H:Dk w v V SB ca cn cc t LB va vc l x y) (hr:V.ownsRow (v.heap.size+1) 2 1 (.slice a' l'.length c') l'.length (ints l')):
 Dk w v (V.setCell ⟨LB,0,none⟩ (.slice a' l'.length c')) SB ca cn cc t LB a' c' l' x y:=by
 have ho:=H.ord
 have hne:∀b,Value.ownBlock (.slice a' l'.length c')=some b→b≠LB:=row_neR (cs:=[.slice va l.length vc,.int .i64 x,.int .i64 y]) hr H.box
 refine ⟨?_,(Below.heap_setCell _ ⟨LB,0,none⟩ _ v.heap.size (show v.heap.size≠LB by omega)).trans H.res,?_,?_,ownsRow_setCell_other hr (a:=⟨LB,0,none⟩) (fun e=>hne _ e rfl) _,ho⟩
 ·have:=Joins.block_setCell (i:=0) H.box (.slice a' l'.length c')
  simpa using this
 ·exact ⟨(Below.heap_setCell _ ⟨LB,0,none⟩ _ SB (show SB≠LB by omega)).trans H.src.box,H.src.bel.setCell (p:=⟨LB,0,none⟩) (show w.heap.size≤LB by have:=H.src.sb;omega) _,H.src.sb⟩
 ·exact ⟨H.chg.os,H.chg.tape,H.chg.output,by simpa using H.chg.size,fun b hb hd=>(Below.heap_setCell _ ⟨LB,0,none⟩ _ b (show b≠LB by omega)).trans (H.chg.block b hb hd)⟩
theorem Dk.start (hS:Src w V SB ca cn cc t) (hc:Chg v V SB (SB+1)) (hr:V.heap[v.heap.size]? =some (.cells #[.slice none 0 0,.int .i64 0,.int .i64 0] 50 (0,0))) (hl:SB<v.heap.size) (k:Int):Dk w v ((V.alloc (.cells #[.int .i64 k] 2)).alloc (.cells #[.slice (some ⟨V.heap.size,0,none⟩) 1 1,.int .i64 0,.int .i64 0] 50)) SB ca cn cc t (V.heap.size+1) (some ⟨V.heap.size,0,none⟩) 1 [k] 0 0:=by
 have hb:=below_box2 (w:=V) (.cells #[.int .i64 k] 2) (.cells #[.slice (some ⟨V.heap.size,0,none⟩) 1 1,.int .i64 0,.int .i64 0] 50)
 have h1:((V.alloc (.cells #[.int .i64 k] 2)).alloc (.cells #[.slice (some ⟨V.heap.size,0,none⟩) 1 1,.int .i64 0,.int .i64 0] 50)).heap[V.heap.size]? =some (.cells #[.int .i64 k] 2 (0,0)):=(keepb (heap_alloc_new V _) (below_box _)).out
 have hlt:=lt_of_block hr
 refine ⟨heap_alloc_at _ _ _ (by simp),(keepb hr hb).out,hS.step hb,hc.trans (Chg.of_below hb _ _),⟨rfl,.inr ⟨V.heap.size,1,#[.int .i64 k],rfl,hlt,h1,Nat.le_refl _,by unfold maxLen;omega,rfl,rfl⟩⟩,hl,by omega⟩
theorem Dk.more {k:Int} (H:Dk w v V SB ca cn cc t LB va vc l x y) (hl:l.length≤500):
 ∃g cap w5,(Builtin.append_ #[48,48] 48 #[.slice va l.length vc,.slice (some ⟨V.heap.size,0,none⟩) 1 1]).run Tryz.prog (V.alloc (.cells #[.int .i64 k] 2))= .ok (.slice (some ⟨g,0,none⟩) (l.length+1) cap) w5∧
  (w5.cell? ⟨LB,0,none⟩=some (.slice va l.length vc)∧w5.frozen? ⟨LB,0,none⟩=false)∧Hid (Dk w v (w5.setCell ⟨LB,0,none⟩ (.slice (some ⟨g,0,none⟩) (l.length+1) cap)) SB ca cn cc t LB (some ⟨g,0,none⟩) cap (l++[k]) x y):=by
 have H1:=H.step (below_box (.cells #[.int .i64 k] 2))
 have ho:=H.ord
 have hlt:=H.lt
 have hvs:=H.chg.size
 have hss:=H.src.lt
 obtain ⟨g,cap,w5,hrun,HG⟩:=intk_added (k:=k) (X:=V.heap.size) H1.row (heap_alloc_new _ _) (by omega) (by simp;omega)
 obtain ⟨hown,hgr⟩:=HG.out
 have hbk:∀b,b<v.heap.size+1∨b=LB→b<V.heap.size→w5.heap[b]? =(V.alloc (.cells #[.int .i64 k] 2)).heap[b]? :=fun b hb hs=>hgr.block b (by simp;omega) (fun e=>by
  rcases hb with hb|hb
  ·have:=(H1.row.lt b e.symm).1;omega
  ·exact H1.ne b e.symm hb)
 have b5:=(hbk LB (.inr rfl) hlt).trans H1.box
 have c3:=(cells3 b5).1
 have f3:=Joins.unfrozen_of_block b5 0
 refine ⟨g,cap,w5,hrun,⟨c3,f3⟩,?_⟩
 have hlen:(l++[k]).length=l.length+1:=by simp
 have hne:=row_neR (cs:=[.slice va l.length vc,.int .i64 x,.int .i64 y]) hown b5
 show Dk _ _ _ _ _ _ _ _ _ _ _ _ _ _
 refine ⟨?_,(Below.heap_setCell _ ⟨LB,0,none⟩ _ v.heap.size (show v.heap.size≠LB by omega)).trans ((hbk _ (.inl (by omega)) (by omega)).trans H1.res),?_,?_,?_,ho⟩
 ·have:=Joins.block_setCell (i:=0) b5 (.slice (some ⟨g,0,none⟩) (l.length+1) cap)
  rw[hlen]
  simpa using this
 ·refine ⟨(Below.heap_setCell _ ⟨LB,0,none⟩ _ SB (show SB≠LB by omega)).trans ((hbk SB (.inl (by omega)) (by omega)).trans H1.src.box),?_,H.src.sb⟩
  have hsb:=H.src.sb
  refine Below.setCell (p:=⟨LB,0,none⟩) ?_ (show w.heap.size≤LB by omega) _
  exact ⟨hgr.os.trans H1.src.bel.os,hgr.tape.trans H1.src.bel.tape,hgr.output.trans H1.src.bel.output,Nat.le_trans H1.src.bel.size hgr.size,fun b hb=>(hbk b (.inl (by omega)) (by have:=H.src.bel.size;omega)).trans (H1.src.bel.block b hb)⟩
 ·have hg5:=hgr.size
  exact ⟨hgr.os.trans H1.chg.os,hgr.tape.trans H1.chg.tape,hgr.output.trans H1.chg.output,by have:=H1.chg.size;simp only[World.size_setCell];omega,fun b hb hd=>(Below.heap_setCell _ ⟨LB,0,none⟩ _ b (show b≠LB by omega)).trans ((hbk b (.inl (by omega)) (by omega)).trans (H1.chg.block b hb hd))⟩
 ·rw[hlen]
  exact ownsRow_setCell_other hown (a:=⟨LB,0,none⟩) (fun e=>hne _ e rfl) _
def OutDk (w v:World) (SB:Nat) (ca:Option Addr) (cn cc T:Nat) (e:Ending) (v':World) (K:List Int→Int→Int→Prop):Prop:=
 ∃(l:List Int) (x y:Int) (va:Option Addr) (vc t':Nat),e= .returned (.agg #[.slice va l.length vc,.int .i64 x,.int .i64 y])∧Hid (v'.ownsRow v.heap.size 2 1 (.slice va l.length vc) l.length (ints l))∧Hid (K l x y)∧t'≤T∧Hid (Src w v' SB ca cn cc t')∧Hid (Chg v v' SB (SB+1))
theorem Dk.ret (H:Dk w v V SB ca cn cc t LB va vc l x y) {T:Nat} (hT:t≤T) {K:List Int→Int→Int→Prop} (hK:K l x y) {e:Ending} (he:e= .returned (.agg #[.slice va l.length vc,.int .i64 x,.int .i64 y])) (v0 v1 v2:Value):
 OutDk w v SB ca cn cc T e (((V.setCell ⟨v.heap.size,0,none⟩ v0).setCell ⟨v.heap.size,1,none⟩ v1).setCell ⟨v.heap.size,2,none⟩ v2) K:=by
 have ho:=H.ord
 have hsb:=H.src.sb
 refine ⟨l,x,y,va,vc,t,he,Joins.ownsRow_le (ownsRow_setCell_below (ownsRow_setCell_below (ownsRow_setCell_below H.row (a:=⟨v.heap.size,0,none⟩) (show v.heap.size<_ by omega) _) (a:=⟨v.heap.size,1,none⟩) (show v.heap.size<_ by omega) _) (a:=⟨v.heap.size,2,none⟩) (show v.heap.size<_ by omega) _) (by omega),hK,hT,?_,?_⟩
 ·exact ⟨(three_heapK (b:=v.heap.size) (c:=SB) (by omega) _ _ _).trans H.src.box,((H.src.bel.setCell (p:=⟨v.heap.size,0,none⟩) (show w.heap.size≤v.heap.size by omega) _).setCell (p:=⟨v.heap.size,1,none⟩) (show w.heap.size≤v.heap.size by omega) _).setCell (p:=⟨v.heap.size,2,none⟩) (show w.heap.size≤v.heap.size by omega) _,hsb⟩
 ·exact ⟨H.chg.os,H.chg.tape,H.chg.output,by simpa using H.chg.size,fun b hb hd=>(three_heapK (b:=v.heap.size) (c:=b) (by omega) _ _ _).trans (H.chg.block b hb hd)⟩
end
theorem iatK3 (V:World) (a b c:Int):IAt (V.alloc (.cells #[.int .i64 a,.int .i64 b,.int .i64 c] 2)) (some ⟨V.heap.size,0,none⟩) 3 [a,b,c]:=
 ⟨rfl,.inr ⟨V.heap.size,0,rfl,by simp,fun j hj=>by
  have h:=heap_alloc_new V (.cells #[.int .i64 a,.int .i64 b,.int .i64 c] 2)
  match j,hj with
  |0,_=>unfold World.cell?;rw[h];rfl
  |1,_=>unfold World.cell?;rw[h];rfl
  |2,_=>unfold World.cell?;rw[h];rfl⟩⟩
theorem iatK4 (V:World) (a b c d:Int):IAt (V.alloc (.cells #[.int .i64 a,.int .i64 b,.int .i64 c,.int .i64 d] 2)) (some ⟨V.heap.size,0,none⟩) 4 [a,b,c,d]:=
 ⟨rfl,.inr ⟨V.heap.size,0,rfl,by simp,fun j hj=>by
  have h:=heap_alloc_new V (.cells #[.int .i64 a,.int .i64 b,.int .i64 c,.int .i64 d] 2)
  match j,hj with
  |0,_=>unfold World.cell?;rw[h];rfl
  |1,_=>unfold World.cell?;rw[h];rfl
  |2,_=>unfold World.cell?;rw[h];rfl
  |3,_=>unfold World.cell?;rw[h];rfl⟩⟩
def KR (l:List Int) (x y:Int):Prop:=(1≤l.length∧l.length≤3)∧(∀k∈l,1≤k∧k≤40)∧(1≤x∧x≤3)∧0≤y∧y≤9
def KRB (l:List Int) (x y:Int):Prop:=l.length≤4∧(∀k∈l,0≤k∧k≤1000)∧(0≤x∧x≤4)∧ -1≤y∧y≤1000
theorem last_at {w v V:World} {SB:Nat} {ca:Option Addr} {cn cc t LB:Nat} {g vc:Nat} {l:List Int} {x y s:Int} (H:Dk w v V SB ca cn cc t LB (some ⟨g,0,none⟩) vc l x y) (h1:1≤l.length) (hs:s=l.getD (l.length-1) 0):V.cell? ⟨g,l.length-1,none⟩=some (.int .i64 s):=by
 have:=H.row.cellAt (l.length-1) (by omega)
 rw[this,hs]
 simp[ints,List.getD,List.getElem?_eq_getElem (show l.length-1<l.length by omega)]
structure R5 (w v:World) (SB:Nat) (ca:Option Addr) (cn cc t0 LB g vc:Nat) (l:List Int) (s:Int) (n:Nat) (V:World) (b0 b1 b2 b3 b4 b5 b6 b7 b8 b9 b10 b11 b12 b13 b14 b15 b16 b17:Bool) (x16 x17 x18 x19 x20 x21 x22 x23 x24 x25 x26 x27 x28 x29 x30 x31 x32:Value):Prop where
 len:l.length=n+1
 m0:b14=false→Dk w v V SB ca cn cc (t0+b12.toNat) LB (some ⟨g,0,none⟩) vc l 0 0
 m1:b14=true→b15=false→∃(U:World) (k:Int),V=U.alloc (.cells #[.int .i64 k] 2)∧Dk w v U SB ca cn cc (t0+1) LB (some ⟨g,0,none⟩) vc l 0 0∧x30= .slice (some ⟨U.heap.size,0,none⟩) 1 1∧1≤k∧k≤s+2
 m2:b15=true→b17=false→∃(g7 cap:Nat) (k:Int),x31= .slice (some ⟨g7,0,none⟩) (n+2) cap∧V.cell? ⟨LB,0,none⟩=some (.slice (some ⟨g,0,none⟩) (n+1) vc)∧V.frozen? ⟨LB,0,none⟩=false∧Dk w v (V.setCell ⟨LB,0,none⟩ (.slice (some ⟨g7,0,none⟩) (n+2) cap)) SB ca cn cc (t0+1) LB (some ⟨g7,0,none⟩) cap (l++[k]) 0 0∧1≤k∧k≤s+2
 m3:b17=true→∃(g7 cap:Nat) (k:Int),Dk w v V SB ca cn cc (t0+1) LB (some ⟨g7,0,none⟩) cap (l++[k]) 0 0∧1≤k∧k≤s+2
 f0:b0=true→x16= .pointer (some ⟨LB,0,none⟩)
 f1:b1=true→x17= .slice (some ⟨g,0,none⟩) (n+1) vc
 f2:b2=true→x18= .pointer (some ⟨LB,0,none⟩)
 f3:b3=true→x19= .slice (some ⟨g,0,none⟩) (n+1) vc
 f4:b4=true→x20= .pointer (some ⟨LB,0,none⟩)
 f5:b5=true→x21= .slice (some ⟨g,0,none⟩) (n+1) vc
 f6:b6=true→x22= .int .i64 ((n:Int)+1)
 f7:b7=true→x23= .int .i64 (n:Int)
 f8:b8=true→x24= .pointer (some ⟨g,n,none⟩)
 f9:b9=true→x25= .int .i64 s
 f10:b10=true→x26= .int .i64 (s+1)
 f11:b11=true→x27= .pointer (some ⟨SB,0,none⟩)
 f16:b16=true→x32= .pointer (some ⟨LB,0,none⟩)
 f12:b12=true→∃r:Int,x28= .int .i64 r∧0≤r∧r<2
 f13:b13=true→∃k:Int,x29= .int .i64 k∧1≤k∧k≤s+2
 o13:b13=true→b10=true∧b12=true
 o10:b10=true→b9=true
 o9:b9=true→b8=true
 o8:b8=true→b3=true∧b7=true
 o7:b7=true→b6=true
 o6:b6=true→b5=true
 o14:b14=true→b13=true
 o15:b15=true→b14=true∧b1=true
 o17:b17=true→b15=true
set_option maxRecDepth 20000 in
set_option maxHeartbeats 8000000 in
theorem l2Draw_any (SB cn cc t:Nat) (ca:Option Addr) (l0:List Int) (w v:World) (ht:t≤900) (hcn:cn≤1048577) (hB:BAt w ca cn l0) (h:Src w v SB ca cn cc t):
 Calls Tryz.prog 103 #[.pointer (some ⟨SB,0,none⟩)] v fun e v'=>OutDk w v SB ca cn cc (t+7) e v' KR:=by
 have HBA:Hid (BAt w ca cn l0):=hB
 have hlt:=h.lt
 have h1:=l1Next_any SB cn cc t ca l0 3 w (v.alloc (.cells #[.slice none 0 0,.int .i64 0,.int .i64 0] 50)) (by omega) (by omega) hcn hB (h.step (below_box _))
 have HC1:Hid (Chg v (v.alloc (.cells #[.slice none 0 0,.int .i64 0,.int .i64 0] 50)) SB (SB+1)):=Chg.of_below (below_box _) _ _
 have HR1:Hid ((v.alloc (.cells #[.slice none 0 0,.int .i64 0,.int .i64 0] 50)).heap[v.heap.size]? =some (.cells #[.slice none 0 0,.int .i64 0,.int .i64 0] 50 (0,0))):=heap_alloc_new _ _
 clear hB h
 go_enter Tryz.func103,Tryz.ntmps103
 go_wp2_with (first
  |(go_at_call 18;have hq:=h1;clear h1;(with_reducible refine hq.mono ?_);clear hq;rintro e v2 ⟨r1,rfl,⟨a1,b1⟩,hS2,hc2⟩;have b1':r1<3:=b1 (by omega);clear b1;have hw1:=IntWalk.i64_in (1+r1) (by omega);have HC2:Hid (Chg v v2 SB (SB+1)):=HC1.out.trans hc2;have HR2:Hid (v2.heap[v.heap.size]? =some (.cells #[.slice none 0 0,.int .i64 0,.int .i64 0] 50 (0,0))):=hc2.keep1 HR1.out (by omega);have HD2:Hid (Dk w v ((v2.alloc (.cells #[.int .i64 (1+r1)] 2)).alloc (.cells #[.slice (some ⟨v2.heap.size,0,none⟩) 1 1,.int .i64 0,.int .i64 0] 50)) SB ca cn cc (t+1) (v2.heap.size+1) (some ⟨v2.heap.size,0,none⟩) 1 [1+r1] 0 0):=Dk.start hS2 HC2.out HR2.out hlt (1+r1);have h2:=l1Next_any SB cn cc (t+1) ca l0 3 w ((v2.alloc (.cells #[.int .i64 (1+r1)] 2)).alloc (.cells #[.slice (some ⟨v2.heap.size,0,none⟩) 1 1,.int .i64 0,.int .i64 0] 50)) (by omega) (by omega) hcn HBA.out HD2.out.src;clear hS2 hc2)
  |(go_at_call 18;have hq:=h2;clear h2;(with_reducible refine hq.mono ?_);clear hq;rintro e v3 ⟨r2,rfl,⟨a2,b2⟩,hS3,hc3⟩;have b2':r2<3:=b2 (by omega);clear b2;have HD3:Hid (Dk w v v3 SB ca cn cc (t+1+1) (v2.heap.size+1) (some ⟨v2.heap.size,0,none⟩) 1 [1+r1] 0 0):=HD2.out.draw hS3 hc3;clear hS3 hc3))
 obtain ⟨k2,rfl⟩:=Int.eq_ofNat_of_zero_le a2
 clear HR1 HC1 HC2 HR2 HD2
 go_loopw [4] (fun i wr=>∃k:Nat,k≤2∧i= .int .i64 k∧Hid (∃(t' g vc:Nat) (l:List Int),Dk w v wr SB ca cn cc t' (v2.heap.size+1) (some ⟨g,0,none⟩) vc l 0 0∧1≤l.length∧(∀q∈l,1≤q∧q≤4*l.length)∧l.length+k≤3∧t'+k≤t+4)) (fun i _=>(intOf i).toNat)
 case atStart=>exact ⟨k2,by omega,rfl,_,_,_,_,HD3.out,by simp,(fun q hq=>by simp at hq;subst hq;simp;omega),by simp;omega,by omega⟩
 case round=>
  obtain ⟨k,hk,rfl,HI⟩:=hrel
  obtain ⟨t',g,vc,l,hD,hl1,hlk,hl3,htk⟩:=HI.out
  have HD:Hid (Dk w v wr SB ca cn cc t' (v2.heap.size+1) (some ⟨g,0,none⟩) vc l 0 0):=hD
  have HLK:Hid (∀q∈l,1≤q∧q≤4*l.length):=hlk
  clear hD hlk HI
  by_cases hk0:0<k
  ·obtain ⟨k',rfl⟩:∃k',k=k'+1:=⟨k-1,by omega⟩
   have hki:(0:Int)<((k'+1:Nat):Int):=by omega
   obtain ⟨s,hs⟩:∃s,s=l.getD (l.length-1) 0:=⟨_,rfl⟩
   have hsm:s∈l:=by rw[hs];exact getD_mem (by omega)
   obtain ⟨s0,s1⟩:=HLK.out s hsm
   have HSM:Hid (s=l.getD (l.length-1) 0):=hs
   clear hs hsm
   obtain ⟨n,hn⟩:∃n,n+1=l.length:=⟨l.length-1,by omega⟩
   have HNL:Hid (n+1=l.length):=hn
   have HS:s=l.getD n 0:=by rw[HSM.out];congr 1;omega
   have HB:=HBA.out
   have hn2:n≤2:=by omega
   have hLB:v2.heap.size+1=v2.heap.size+1:=rfl
   obtain ⟨LB,hLBe⟩:∃z,z=v2.heap.size+1:=⟨_,rfl⟩
   clear hLB
   have HDb:Hid (Dk w v wr SB ca cn cc t' LB (some ⟨g,0,none⟩) vc l 0 0):=by rw[hLBe];exact HD.out
   obtain ⟨t0,ht0⟩:∃z,z=t':=⟨_,rfl⟩
   rw[←ht0] at HDb htk
   have HSn:Hid (s=l.getD n 0):=HS
   have hs4:s≤4*(n+1):=by omega
   have HL1:Hid (l.length=n+1):=hn.symm
   clear hn HSM HS HD HNL hl1
   go_wp2
   rw[←hLBe]
   have HLB:Hid (LB=v2.heap.size+1):=hLBe
   clear hLBe
   refine wp_region_any (by kernel_rfl) ?_
   change wpAny _ _ _ _ _ _ _ (World.drew _)
   refine wpAny_inv (fun L a V=>∃(b0 b1 b2 b3 b4 b5 b6 b7 b8 b9 b10 b11 b12 b13 b14 b15 b16 b17:Bool) (x16 x17 x18 x19 x20 x21 x22 x23 x24 x25 x26 x27 x28 x29 x30 x31 x32:Value),L=#[b0,b1,b2,b3,b4,b5,b6,b7,b8,b9,b10,b11,b12,b13,b14,b15,b16,b17]∧a={tmps:=#[.pointer (some ⟨SB,0,none⟩),undef,.pointer (some ⟨v.heap.size,0,none⟩),.pointer (some ⟨LB,0,none⟩),.int .i64 ((k':Int)+1),.pointer (some ⟨SB,0,none⟩),.int .i64 r1,.int .i64 (1+r1),.slice (some ⟨v2.heap.size,0,none⟩) 1 1,.agg #[.slice (some ⟨v2.heap.size,0,none⟩) 1 1,.int .i64 0,.int .i64 0],.pointer (some ⟨SB,0,none⟩),.int .i64 k2,.int .i64 ((k':Int)+1),.bool true,u14,u15,x16,x17,x18,x19,x20,x21,x22,x23,x24,x25,x26,x27,x28,x29,x30,x31,x32,undef,undef,undef,undef,undef,undef,undef,undef,undef,undef,undef,undef,undef,undef],defers:=[]}∧R5 w v SB ca cn cc t0 LB g vc l s n V b0 b1 b2 b3 b4 b5 b6 b7 b8 b9 b10 b11 b12 b13 b14 b15 b16 b17 x16 x17 x18 x19 x20 x21 x22 x23 x24 x25 x26 x27 x28 x29 x30 x31 x32) ?step ?done _ _ _ _ (by simp) ?start
   case start=>
    refine ⟨false,false,false,false,false,false,false,false,false,false,false,false,false,false,false,false,false,false,_,_,_,_,_,_,_,_,_,_,_,_,_,_,_,_,_,rfl,rfl,?_⟩
    have hd:Below wr.heap.size wr wr.drew:=(Below.refl _ _).drew
    exact {len:=HL1.out,m0:=fun _=>HDb.out.step hd,m1:=nofun,m2:=nofun,m3:=nofun,f0:=nofun,f1:=nofun,f2:=nofun,f3:=nofun,f4:=nofun,f5:=nofun,f6:=nofun,f7:=nofun,f8:=nofun,f9:=nofun,f10:=nofun,f11:=nofun,f16:=nofun,f12:=nofun,f13:=nofun,o13:=nofun,o10:=nofun,o9:=nofun,o8:=nofun,o7:=nofun,o6:=nofun,o14:=nofun,o15:=nofun,o17:=nofun}
   case done=>
    rintro L a V ⟨b0,b1,b2,b3,b4,b5,b6,b7,b8,b9,b10,b11,b12,b13,b14,b15,b16,b17,x16,x17,x18,x19,x20,x21,x22,x23,x24,x25,x26,x27,x28,x29,x30,x31,x32,rfl,rfl,H⟩ hr
    have hall:=ready_all (by kernel_rfl) hr
    obtain rfl:b17=true:=hall 17 (by decide)
    obtain ⟨g7,cap,k7,hD7,k0,k1⟩:=H.m3 rfl
    have HD7:Hid (Dk w v V SB ca cn cc (t0+1) LB (some ⟨g7,0,none⟩) cap (l++[k7]) 0 0):=hD7
    clear hD7 H hall hr
    obtain rfl:LB=v2.heap.size+1:=HLB.out
    go_wp2
    go_roundw
    case rel=>exact ⟨k',by omega,by go_num,_,_,_,_,HD7.out,by simp,(fun q hq=>by rw[List.mem_append] at hq;simp only[List.length_append,List.length_cons,List.length_nil];have:=HL1.out;rcases hq with hq|hq;(have:=HLK.out q hq;omega);(simp at hq;omega)),by simp;have:=HL1.out;omega,by omega⟩
    case measure=>simp[intOf];try omega
   case step=>
    rintro L a V i ⟨b0,b1,b2,b3,b4,b5,b6,b7,b8,b9,b10,b11,b12,b13,b14,b15,b16,b17,x16,x17,x18,x19,x20,x21,x22,x23,x24,x25,x26,x27,x28,x29,x30,x31,x32,rfl,rfl,H⟩ hi
    have hlt:i<18:=ready_lt hi
    obtain rfl|rfl|rfl|rfl|rfl|rfl|rfl|rfl|rfl|rfl|rfl|rfl|rfl|rfl|rfl|rfl|rfl|rfl:i=0∨i=1∨i=2∨i=3∨i=4∨i=5∨i=6∨i=7∨i=8∨i=9∨i=10∨i=11∨i=12∨i=13∨i=14∨i=15∨i=16∨i=17:=by omega
    ·obtain rfl:b0=false:=ready_new hi
     refine wpOp_run (o:=_) rfl (fun K hK=> ?_)
     go_simp
     refine hK _ _ ?_
     exact ⟨_,_,_,_,_,_,_,_,_,_,_,_,_,_,_,_,_,_,_,_,_,_,_,_,_,_,_,_,_,_,_,_,_,_,_,rfl,rfl,{H with f0:=fun _=>rfl}⟩
    ·obtain rfl:b1=false:=ready_new hi
     obtain rfl:b0=true:=ready_dep (d:=0) hi (by kernel_rfl)
     obtain rfl:b15=false:=by cases h:b15 with|false=>rfl|true=>exact absurd (H.o15 h).2 (by decide)
     obtain rfl:=H.f0 rfl
     have hc:V.cell? ⟨LB,0,none⟩=some (.slice (some ⟨g,0,none⟩) (n+1) vc):=by
      cases h14:b14 with
      |false=>exact H.len▸(H.m0 h14).cells.1
      |true=>
       obtain ⟨U,k,rfl,hD,_⟩:=H.m1 h14 rfl
       exact H.len▸(hD.step (below_box _)).cells.1
     refine wpOp_run (o:=_) rfl (fun K hK=> ?_)
     go_simp
     refine hK _ _ ?_
     exact ⟨_,_,_,_,_,_,_,_,_,_,_,_,_,_,_,_,_,_,_,_,_,_,_,_,_,_,_,_,_,_,_,_,_,_,_,rfl,rfl,{H with f1:=fun _=>rfl,o15:=fun h=>(by cases h)}⟩
    ·obtain rfl:b2=false:=ready_new hi
     refine wpOp_run (o:=_) rfl (fun K hK=> ?_)
     go_simp
     refine hK _ _ ?_
     exact ⟨_,_,_,_,_,_,_,_,_,_,_,_,_,_,_,_,_,_,_,_,_,_,_,_,_,_,_,_,_,_,_,_,_,_,_,rfl,rfl,{H with f2:=fun _=>rfl}⟩
    ·obtain rfl:b3=false:=ready_new hi
     obtain rfl:b2=true:=ready_dep (d:=2) hi (by kernel_rfl)
     obtain rfl:b14=false:=by cases h:b14 with|false=>rfl|true=>exact absurd (H.o8 (H.o9 (H.o10 (H.o13 (H.o14 h)).1))).1 (by decide)
     obtain rfl:=H.f2 rfl
     have hc:V.cell? ⟨LB,0,none⟩=some (.slice (some ⟨g,0,none⟩) (n+1) vc):=H.len▸(H.m0 rfl).cells.1
     refine wpOp_run (o:=_) rfl (fun K hK=> ?_)
     go_simp
     refine hK _ _ ?_
     exact ⟨_,_,_,_,_,_,_,_,_,_,_,_,_,_,_,_,_,_,_,_,_,_,_,_,_,_,_,_,_,_,_,_,_,_,_,rfl,rfl,{H with f3:=fun _=>rfl,o8:=fun h=>(by have:=(H.o8 h).1;cases this)}⟩
    ·obtain rfl:b4=false:=ready_new hi
     refine wpOp_run (o:=_) rfl (fun K hK=> ?_)
     go_simp
     refine hK _ _ ?_
     exact ⟨_,_,_,_,_,_,_,_,_,_,_,_,_,_,_,_,_,_,_,_,_,_,_,_,_,_,_,_,_,_,_,_,_,_,_,rfl,rfl,{H with f4:=fun _=>rfl}⟩
    ·obtain rfl:b5=false:=ready_new hi
     obtain rfl:b4=true:=ready_dep (d:=4) hi (by kernel_rfl)
     obtain rfl:b14=false:=by cases h:b14 with|false=>rfl|true=>exact absurd (H.o6 (H.o7 (H.o8 (H.o9 (H.o10 (H.o13 (H.o14 h)).1))).2)) (by decide)
     obtain rfl:=H.f4 rfl
     have hc:V.cell? ⟨LB,0,none⟩=some (.slice (some ⟨g,0,none⟩) (n+1) vc):=H.len▸(H.m0 rfl).cells.1
     refine wpOp_run (o:=_) rfl (fun K hK=> ?_)
     go_simp
     refine hK _ _ ?_
     exact ⟨_,_,_,_,_,_,_,_,_,_,_,_,_,_,_,_,_,_,_,_,_,_,_,_,_,_,_,_,_,_,_,_,_,_,_,rfl,rfl,{H with f5:=fun _=>rfl,o6:=fun h=>(by have:=H.o6 h;cases this)}⟩
    ·obtain rfl:b6=false:=ready_new hi
     obtain rfl:b5=true:=ready_dep (d:=5) hi (by kernel_rfl)
     obtain rfl:=H.f5 rfl
     refine wpOp_run (o:=_) rfl (fun K hK=> ?_)
     go_simp
     refine hK _ _ ?_
     exact ⟨_,_,_,_,_,_,_,_,_,_,_,_,_,_,_,_,_,_,_,_,_,_,_,_,_,_,_,_,_,_,_,_,_,_,_,rfl,rfl,{H with f6:=fun _=>rfl,o6:=fun _=>rfl,o7:=fun h=>(by have:=H.o7 h;cases this)}⟩
    ·obtain rfl:b7=false:=ready_new hi
     obtain rfl:b6=true:=ready_dep (d:=6) hi (by kernel_rfl)
     obtain rfl:=H.f6 rfl
     have wn:IntKind.i64.wrap ((n:Nat):Int)=(n:Int):=IntWalk.i64_in _ (by omega)
     refine wpOp_run (o:=_) rfl (fun K hK=> ?_)
     go_simp
     refine hK _ _ ?_
     exact ⟨_,_,_,_,_,_,_,_,_,_,_,_,_,_,_,_,_,_,_,_,_,_,_,_,_,_,_,_,_,_,_,_,_,_,_,rfl,rfl,{H with f7:=fun _=>rfl,o7:=fun _=>rfl,o8:=fun h=>(by have:=(H.o8 h).2;cases this)}⟩
    ·obtain rfl:b8=false:=ready_new hi
     obtain rfl:b3=true:=ready_dep (d:=3) hi (by kernel_rfl)
     obtain rfl:b7=true:=ready_dep (d:=7) hi (by kernel_rfl)
     obtain rfl:=H.f3 rfl
     obtain rfl:=H.f7 rfl
     have n0:(0:Int)≤(n:Int):=by omega
     have n1:(n:Int)<(n:Int)+1:=by omega
     refine wpOp_run (o:=_) rfl (fun K hK=> ?_)
     go_simp
     refine hK _ _ ?_
     exact ⟨_,_,_,_,_,_,_,_,_,_,_,_,_,_,_,_,_,_,_,_,_,_,_,_,_,_,_,_,_,_,_,_,_,_,_,rfl,rfl,{H with f8:=fun _=>rfl,o8:=fun _=>⟨rfl,rfl⟩,o9:=fun h=>(by have:=H.o9 h;cases this)}⟩
    ·obtain rfl:b9=false:=ready_new hi
     obtain rfl:b8=true:=ready_dep (d:=8) hi (by kernel_rfl)
     obtain rfl:b14=false:=by cases h:b14 with|false=>rfl|true=>exact absurd (H.o10 (H.o13 (H.o14 h)).1) (by decide)
     obtain rfl:=H.f8 rfl
     have hc:V.cell? ⟨g,n,none⟩=some (.int .i64 s):=by
      have:=last_at (H.m0 rfl) (by rw[H.len];omega) (s:=s) (by rw[H.len];exact HSn.out)
      rwa [H.len] at this
     refine wpOp_run (o:=_) rfl (fun K hK=> ?_)
     go_simp
     refine hK _ _ ?_
     exact ⟨_,_,_,_,_,_,_,_,_,_,_,_,_,_,_,_,_,_,_,_,_,_,_,_,_,_,_,_,_,_,_,_,_,_,_,rfl,rfl,{H with f9:=fun _=>rfl,o9:=fun _=>rfl,o10:=fun h=>(by have:=H.o10 h;cases this)}⟩
    ·obtain rfl:b10=false:=ready_new hi
     obtain rfl:b9=true:=ready_dep (d:=9) hi (by kernel_rfl)
     obtain rfl:=H.f9 rfl
     have w1:IntKind.i64.wrap (s+1)=s+1:=IntWalk.i64_in _ (by omega)
     refine wpOp_run (o:=_) rfl (fun K hK=> ?_)
     go_simp
     refine hK _ _ ?_
     exact ⟨_,_,_,_,_,_,_,_,_,_,_,_,_,_,_,_,_,_,_,_,_,_,_,_,_,_,_,_,_,_,_,_,_,_,_,rfl,rfl,{H with f10:=fun _=>rfl,o10:=fun _=>rfl,o13:=fun h=>(by have:=(H.o13 h).1;cases this)}⟩
    ·obtain rfl:b11=false:=ready_new hi
     refine wpOp_run (o:=_) rfl (fun K hK=> ?_)
     go_simp
     refine hK _ _ ?_
     exact ⟨_,_,_,_,_,_,_,_,_,_,_,_,_,_,_,_,_,_,_,_,_,_,_,_,_,_,_,_,_,_,_,_,_,_,_,rfl,rfl,{H with f11:=fun _=>rfl}⟩
    ·obtain rfl:b12=false:=ready_new hi
     obtain rfl:b11=true:=ready_dep (d:=11) hi (by kernel_rfl)
     obtain rfl:b14=false:=by cases h:b14 with|false=>rfl|true=>exact absurd (H.o13 (H.o14 h)).2 (by decide)
     obtain rfl:=H.f11 rfl
     have hN:=l1Next_any SB cn cc (t0+0) ca l0 2 w V (by omega) (by omega) hcn HB (H.m0 rfl).src
     refine wpOp_run (o:=_) rfl (fun K hK=> ?_)
     go_simp
     go_at_call 18
     refine hN.mono ?_
     rintro e v5 ⟨r,rfl,⟨r0,r1⟩,hS,hc⟩
     have r2:r<2:=r1 (by omega)
     have hD:=(H.m0 rfl).draw hS hc
     go_simp
     refine hK _ _ ?_
     exact ⟨_,_,_,_,_,_,_,_,_,_,_,_,_,_,_,_,_,_,_,_,_,_,_,_,_,_,_,_,_,_,_,_,_,_,_,rfl,rfl,{H with m0:=fun _=>hD,m1:=fun h=>(by cases h),m2:=fun h=>(by have:=(H.o15 h).1;cases this),m3:=fun h=>(by have:=(H.o15 (H.o17 h)).1;cases this),f12:=fun _=>⟨r,rfl,r0,r2⟩,o13:=fun h=>(by have:=(H.o13 h).2;cases this)}⟩
    ·obtain rfl:b13=false:=ready_new hi
     obtain rfl:b10=true:=ready_dep (d:=10) hi (by kernel_rfl)
     obtain rfl:b12=true:=ready_dep (d:=12) hi (by kernel_rfl)
     obtain rfl:=H.f10 rfl
     obtain ⟨r,e28,r0,r1⟩:=H.f12 rfl
     subst e28
     have w2:IntKind.i64.wrap (s+1+r)=s+1+r:=IntWalk.i64_in _ (by omega)
     refine wpOp_run (o:=_) rfl (fun K hK=> ?_)
     go_simp
     refine hK _ _ ?_
     exact ⟨_,_,_,_,_,_,_,_,_,_,_,_,_,_,_,_,_,_,_,_,_,_,_,_,_,_,_,_,_,_,_,_,_,_,_,rfl,rfl,{H with f13:=fun _=>⟨s+1+r,rfl,by omega,by omega⟩,o13:=fun _=>⟨rfl,rfl⟩,o14:=fun h=>(by have:=H.o14 h;cases this)}⟩
    ·obtain rfl:b14=false:=ready_new hi
     obtain rfl:b13=true:=ready_dep (d:=13) hi (by kernel_rfl)
     obtain rfl:b12=true:=(H.o13 rfl).2
     obtain rfl:b15=false:=by cases h:b15 with|false=>rfl|true=>exact absurd (H.o15 h).1 (by decide)
     obtain rfl:b17=false:=by cases h:b17 with|false=>rfl|true=>exact absurd (H.o17 h) (by decide)
     obtain ⟨k,e29,k0,k1⟩:=H.f13 rfl
     subst e29
     have hD:=H.m0 rfl
     refine wpOp_run (o:=_) rfl (fun K hK=> ?_)
     go_simp
     refine hK _ _ ?_
     exact ⟨_,_,_,_,_,_,_,_,_,_,_,_,_,_,_,_,_,_,_,_,_,_,_,_,_,_,_,_,_,_,_,_,_,_,_,rfl,rfl,{H with m0:=fun h=>(by cases h),m1:=fun _ _=>⟨V,k,rfl,hD,rfl,k0,k1⟩,m2:=fun h=>(by cases h),m3:=fun h=>(by cases h),o14:=fun _=>rfl,o15:=fun h=>(by cases h)}⟩
    ·obtain rfl:b15=false:=ready_new hi
     obtain rfl:b1=true:=ready_dep (d:=1) hi (by kernel_rfl)
     obtain rfl:b14=true:=ready_dep (d:=14) hi (by kernel_rfl)
     obtain rfl:b17=false:=by cases h:b17 with|false=>rfl|true=>exact absurd (H.o17 h) (by decide)
     obtain rfl:=H.f1 rfl
     obtain ⟨U,k,rfl,hD,e30,k0,k1⟩:=H.m1 rfl rfl
     subst e30
     obtain ⟨g7,cap,w7,hrun,⟨c7,d7⟩,HD7⟩:=hD.more (k:=k) (by rw[H.len];omega)
     rw[H.len] at hrun c7 HD7
     refine wpOp_run (o:=_) rfl (fun K hK=> ?_)
     refine step_append_run (by rfl) _ _ _ (by rfl) (by rfl) (by rfl) hrun ?_
     refine hK _ _ ?_
     exact ⟨_,_,_,_,_,_,_,_,_,_,_,_,_,_,_,_,_,_,_,_,_,_,_,_,_,_,_,_,_,_,_,_,_,_,_,rfl,rfl,{H with m0:=fun h=>(by have:=h;cases this),m1:=fun _ h=>(by cases h),m2:=fun _ _=>⟨g7,cap,k,rfl,c7,d7,HD7.out,k0,k1⟩,m3:=fun h=>(by cases h),o15:=fun _=>⟨rfl,rfl⟩,o17:=fun h=>(by cases h)}⟩
    ·obtain rfl:b16=false:=ready_new hi
     refine wpOp_run (o:=_) rfl (fun K hK=> ?_)
     go_simp
     refine hK _ _ ?_
     exact ⟨_,_,_,_,_,_,_,_,_,_,_,_,_,_,_,_,_,_,_,_,_,_,_,_,_,_,_,_,_,_,_,_,_,_,_,rfl,rfl,{H with f16:=fun _=>rfl}⟩
    ·obtain rfl:b17=false:=ready_new hi
     obtain rfl:b15=true:=ready_dep (d:=15) hi (by kernel_rfl)
     obtain rfl:b16=true:=ready_dep (d:=16) hi (by kernel_rfl)
     obtain rfl:b14=true:=(H.o15 rfl).1
     obtain rfl:=H.f16 rfl
     obtain ⟨g7,cap,k,e31,c7,d7,hD,k0,k1⟩:=H.m2 rfl rfl
     subst e31
     refine wpOp_run (o:=_) rfl (fun K hK=> ?_)
     go_simp
     refine hK _ _ ?_
     exact ⟨_,_,_,_,_,_,_,_,_,_,_,_,_,_,_,_,_,_,_,_,_,_,_,_,_,_,_,_,_,_,_,_,_,_,_,rfl,rfl,{H with m0:=fun h=>(by cases h),m1:=fun _ h=>(by cases h),m2:=fun _ h=>(by cases h),m3:=fun _=>⟨g7,cap,k,hD,k0,k1⟩,o17:=fun _=>rfl}⟩
  ·have hki:¬(0:Int)<(k:Int):=by omega
   obtain rfl:k=0:=by omega
   have hN:=l1Next_any SB cn cc t' ca l0 l.length w wr (by omega) (by omega) hcn HBA.out HD.out.src
   obtain ⟨n,hn⟩:∃n,n=l.length:=⟨_,rfl⟩
   have HNL:Hid (n=l.length):=hn
   have c0:=HD.out.cells.1
   rw[←hn] at hN c0 hl1 hl3
   clear hn
   go_wp2_with (first
    |(go_at_call 18;have hq:=hN;clear hN;(with_reducible refine hq.mono ?_);clear hq;rintro e v4 ⟨r4,rfl,⟨a4,b4⟩,hS4,hc4⟩;have b4':r4<n:=b4 (by omega);clear b4;have hw4:=IntWalk.i64_in (1+r4) (by omega);have HD4:Hid (Dk w v v4 SB ca cn cc (t'+1) (v2.heap.size+1) (some ⟨g,0,none⟩) vc l 0 0):=HD.out.draw hS4 hc4;have HD5:Hid (Dk w v (v4.setCell ⟨v2.heap.size+1,1,none⟩ (.int .i64 (1+r4))) SB ca cn cc (t'+1) (v2.heap.size+1) (some ⟨g,0,none⟩) vc l (1+r4) 0):=HD4.out.setk (i:=1) rfl;have e1:=HD4.out.cells.2.1;have g1:=HD4.out.fz 1;have hM:=l1Next_any SB cn cc (t'+1) ca l0 9 w (v4.setCell ⟨v2.heap.size+1,1,none⟩ (.int .i64 (1+r4))) (by omega) (by omega) hcn HBA.out HD5.out.src;clear hS4 hc4)
    |(go_at_call 18;have hq:=hM;clear hM;(with_reducible refine hq.mono ?_);clear hq;rintro e v5 ⟨r5,rfl,⟨a5,b5⟩,hS5,hc5⟩;have b5':r5<9:=b5 (by omega);clear b5;have HD6:Hid (Dk w v v5 SB ca cn cc (t'+1+1) (v2.heap.size+1) (some ⟨g,0,none⟩) vc l (1+r4) 0):=HD5.out.draw hS5 hc5;have hD7:=HD6.out.step (below_box (.cells #[.int .i64 0,.int .i64 0,.int .i64 0,.int .i64 r5] 2));have HO5:Hid (SB<v5.heap.size):=HD6.out.src.lt;have hP:=l1Pick_any SB cn cc (t'+1+1) 4 4 ca (some ⟨v5.heap.size,0,none⟩) l0 [0,0,0,r5] w (v5.alloc (.cells #[.int .i64 0,.int .i64 0,.int .i64 0,.int .i64 r5] 2)) (by omega) (by omega) (by omega) hcn HBA.out hD7.src (iatK4 v5 0 0 0 r5) (fun b off e=>(by cases e;have:=HO5.out;omega));clear hS5 hc5)
    |(go_at_call 22;have hq:=hP;clear hP;(with_reducible refine hq.mono ?_);clear hq;rintro e v6 ⟨z,rfl,hz,hS6,hc6⟩;have HZ:Hid (0≤z∧z≤9):=(by simp at hz;rcases hz with rfl|rfl<;>first|(exact ⟨by omega,by omega⟩));have HD8:Hid (Dk w v v6 SB ca cn cc (t'+1+1+1) (v2.heap.size+1) (some ⟨g,0,none⟩) vc l (1+r4) 0):=hD7.draw hS6 hc6;have e2:=HD8.out.cells.2.2;have g2:=HD8.out.fz 2;have HD9:Hid (Dk w v (v6.setCell ⟨v2.heap.size+1,2,none⟩ (.int .i64 z)) SB ca cn cc (t'+1+1+1) (v2.heap.size+1) (some ⟨g,0,none⟩) vc l (1+r4) z):=HD8.out.setk (i:=2) rfl;have x0:=HD9.out.cells.1;have x1:=HD9.out.cells.2.1;have x2:=HD9.out.cells.2.2;rw[←HNL.out] at x0;obtain ⟨y0,y1,y2⟩:=cells3 HD9.out.res;have z0:=Joins.unfrozen_of_block HD9.out.res 0;have z1:=Joins.unfrozen_of_block HD9.out.res 1;have z2:=Joins.unfrozen_of_block HD9.out.res 2;clear hS6 hc6 hz hD7))
   obtain ⟨j0,j1,j2⟩:=three_set HD9.out.res (.slice (some ⟨g,0,none⟩) n vc) (.int .i64 (1+r4)) (.int .i64 z)
   have hzz:=HZ.out
   have hE:=HD9.out.ret (T:=t+7) (K:=KR) (by omega) ⟨by rw[←HNL.out];omega,fun q hq=>by have:=HLK.out q hq;rw[←HNL.out] at this;omega,by omega,by omega⟩ rfl (.slice (some ⟨g,0,none⟩) n vc) (.int .i64 (1+r4)) (.int .i64 z)
   rw[←HNL.out] at hE
   exact bodyPost_ret (v:= .agg #[.slice (some ⟨g,0,none⟩) n vc,.int .i64 (1+r4),.int .i64 z]) (by simp[results,Tryz.results103,go_sem,j0,j1,j2]) rfl hE
end Go.Proofs.YtagokfoimokniaaGreatDoor

namespace Go.Proofs.YtagokfoimokniaaGreatDoor
open Go.RowKit Go.Maps Go.WideMaps

/-- Coins of one's own, read as coins. -/
theorem COwn.at {w : World} {lo hi n : Nat} {v : Value} {f : Nat → Co} {kv : Nat → Value} (h : COwn w lo hi v n f kv) {cs : List Co} (hn : cs.length = n) (hc : ∀ j, j < n → cs.getD j C0 = f j) (hl : ∀ j, j < n → (f j).l.length ≤ 1048576) :
    ∃ a c, v = .slice a n c ∧ CAt w a n cs := by
  obtain ⟨xs, h1, h2⟩ := h.row
  rcases id h1.2 with ⟨rfl, rfl⟩ | ⟨g, cap, cur, rfl, hbg, hgg, hnc, hcm, _⟩
  · exact ⟨none, 0, rfl, hn, .inl rfl⟩
  · refine ⟨some ⟨g, 0, none⟩, cap, rfl, hn, .inr ⟨g, 0, rfl, (h1.lt g rfl).2, fun j hj => ?_⟩⟩
    have hk := (h.keys j hj).1
    have h5 := hl j hj
    obtain ⟨a0, a1, a2, a3, a4, a5, a6, a7⟩ := h2 j hj
    have hxl := h1.1
    rw [hc j hj]
    have cell : ∀ i, i < 8 → w.cell? ⟨g, 0 + j * 8 + i, none⟩ = xs[j * 8 + i]? := fun i hi => by rw [Nat.zero_add]; exact h1.cellAt (j * 8 + i) (by omega)
    have cell0 : w.cell? ⟨g, 0 + j * 8, none⟩ = xs[j * 8]? := cell 0 (by omega)
    rcases id hk.2 with ⟨e, e2⟩ | ⟨g', cap', cur', e, _⟩
    · refine ⟨none, 0, ⟨cell0.trans a0, (cell 1 (by omega)).trans a1, (cell 2 (by omega)).trans a2, ?_, (cell 4 (by omega)).trans a4, (cell 5 (by omega)).trans a5, (cell 6 (by omega)).trans a6, (cell 7 (by omega)).trans a7⟩, by unfold maxLen; omega, rfl, .inl e2⟩
      rw [cell 3 (by omega), a3, e, e2]
    · refine ⟨some ⟨g', 0, none⟩, cap', ⟨cell0.trans a0, (cell 1 (by omega)).trans a1, (cell 2 (by omega)).trans a2, ?_, (cell 4 (by omega)).trans a4, (cell 5 (by omega)).trans a5, (cell 6 (by omega)).trans a6, (cell 7 (by omega)).trans a7⟩, by unfold maxLen; omega, ?_⟩
      · rw [cell 3 (by omega), a3, e]
      · rw [e] at hk
        exact IAt.owned hk rfl

end Go.Proofs.YtagokfoimokniaaGreatDoor

namespace Go.Proofs.YtagokfoimokniaaGreatDoor
open Go.RowKit Go.Maps Go.WideMaps

theorem rises {pr : Int × Int} {cs : List Co} (h : csR pr cs = 0) : (∀ c ∈ cs, coinR c = 0) ∧ (∀ c ∈ cs, 0 < cmpR (c.p, c.q) pr) ∧ cs.Pairwise (fun a b => 0 < cmpR (b.p, b.q) (a.p, a.q)) := by
  induction cs generalizing pr with
  | nil => exact ⟨fun c hc => (by cases hc), fun c hc => (by cases hc), List.Pairwise.nil⟩
  | cons c t ih =>
    have h0 : coinR c = 0 := by
      by_cases e : coinR c = 0
      · exact e
      · rw [csR_bad rfl e] at h; exact absurd h e
    have h1 : ¬ cmpR (c.p, c.q) pr ≤ 0 := fun e => by rw [csR_form h0 e] at h; cases h
    rw [csR_go h0 h1] at h
    obtain ⟨i1, i2, i3⟩ := ih h
    refine ⟨fun d hd => ?_, fun d hd => ?_, List.Pairwise.cons (fun d hd => i2 d hd) i3⟩
    · rcases List.mem_cons.1 hd with rfl | hd
      · exact h0
      · exact i1 d hd
    · rcases List.mem_cons.1 hd with rfl | hd
      · omega
      · obtain ⟨p1, p2⟩ := pr
        have a := cmpR_pos.1 (i2 d hd)
        have b := cmpR_pos.1 (show 0 < cmpR (c.p, c.q) (p1, p2) by omega)
        exact cmpR_pos.2 (by omega)
theorem coin_more {c : Co} (h : coinR c = 0) : (1 ≤ c.p ∧ c.p ≤ 60) ∧ (0 ≤ c.q ∧ c.q ≤ 3) ∧ 1 ≤ c.l.length ∧ c.l.length ≤ 3 := by
  unfold coinR at h
  by_cases h1 : refB (c.p, c.q) = false ∨ inB c.h 0 999 = false
  · rw [if_pos h1] at h; cases h
  · rw [if_neg h1] at h; unfold outR at h
    have h2 : refB (c.p, c.q) = true := by cases e : refB (c.p, c.q); exact absurd (.inl e) h1; rfl
    by_cases h3 : inB c.v 1 1000000 = false
    · rw [if_pos h3] at h; cases h
    · rw [if_neg h3] at h; unfold ruleR at h
      by_cases h4 : inB c.l.length 1 3 = false
      · rw [if_pos h4] at h; cases h
      · have h5 : inB c.l.length 1 3 = true := by cases e : inB c.l.length 1 3; exact absurd e h4; rfl
        simp [refB, inB] at h2 h5
        omega
theorem coins_rise {cs : List Co} (h : coinsR cs = 0) : cs.length ≤ 40 ∧ (∀ c ∈ cs, coinR c = 0) ∧ cs.Pairwise (fun a b => 0 < cmpR (b.p, b.q) (a.p, a.q)) := by
  unfold coinsR at h
  by_cases e : 40 < cs.length
  · rw [if_pos e] at h; cases h
  · rw [if_neg e] at h; exact ⟨by omega, (rises h).1, (rises h).2.2⟩
theorem find_none {ps : List (Co × Value)} {L0 cs : List Co} {n j : Nat} {o : Co} (hn : cs.length = n) (hlt : j < n) (ho : o = cs.getD j C0) (hp : ps.map (·.1) = L0 ++ cs.take j) (hr : (L0 ++ cs).Pairwise (fun a b => (a.p, a.q) ≠ (b.p, b.q))) : findP ps (o.p, o.q) = none := by
  unfold findP
  rw [List.find?_eq_none]
  intro y hy
  have h1 : y.1 ∈ L0 ++ cs.take j := by rw [← hp]; exact List.mem_map.2 ⟨y, hy, rfl⟩
  have h2 : L0 ++ cs = (L0 ++ cs.take j) ++ cs.drop j := by rw [List.append_assoc, List.take_append_drop]
  rw [h2, List.pairwise_append] at hr
  have h3 := hr.2.2 y.1 h1 o (by rw [next_coin hn hlt ho]; exact List.mem_cons_self ..)
  intro e
  have e2 : refOf y = (o.p, o.q) := by simpa using e
  exact h3 (by simpa [refOf] using e2)
theorem rise_ne {cs : List Co} (h : cs.Pairwise (fun a b => 0 < cmpR (b.p, b.q) (a.p, a.q))) : cs.Pairwise (fun a b => (a.p, a.q) ≠ (b.p, b.q)) := by
  refine h.imp fun {a b} k e => ?_
  have := cmpR_pos.1 k
  simp at e
  omega

/-- What filling a purse comes to. -/
def FillR (w w' : World) (e : Ending) (cs : List Co) : Prop :=
  Below w.heap.size w w' ∧ ((coinsR cs ≠ 0 ∧ e = .returned (.tuple #[.map none, .int .i64 (coinsR cs)])) ∨ (coinsR cs = 0 ∧ ∃ B ps, e = .returned (.tuple #[.map (some B), .int .i64 0]) ∧ Pu w' w.heap.size B ps ∧ ps.map (·.1) = cs))

set_option maxRecDepth 20000 in
set_option maxHeartbeats 2000000 in
/-- All coins of a list are put into a purse that has none of their refs; the list is older memory than the purse. -/
theorem putAll_any (B lo n c : Nat) (a : Option Addr) (cs : List Co) (ps0 : List (Co × Value)) (w v : World) (hn : n ≤ 500) (hl0 : ps0.length ≤ 500) (hC : CAt w a n cs) (hok : ∀ c ∈ cs, coinR c = 0) (hap : (ps0.map (·.1) ++ cs).Pairwise (fun a b => (a.p, a.q) ≠ (b.p, b.q))) (hbv : Below w.heap.size w v) (hB : w.heap.size ≤ B) (hlo : lo ≤ v.heap.size) (hP : Pu v lo B ps0) :
    Calls Tryz.prog 57 #[.map (some B), .slice a n c] v fun e w' => e = .returned (.tuple #[]) ∧ Hid (∃ ps, Pu w' lo B ps ∧ ps.map (·.1) = ps0.map (·.1) ++ cs) ∧ Below w.heap.size w w' ∧ Chg v w' B (B + 1) := by
  have HC : Hid (CAt w a n cs) := hC
  have HN : Hid (cs.length = n) := hC.1
  have HOK : Hid (∀ c ∈ cs, coinR c = 0) := hok
  have HAP : Hid ((ps0.map (·.1) ++ cs).Pairwise (fun a b => (a.p, a.q) ≠ (b.p, b.q))) := hap
  have HPV : Hid (Pu v lo B ps0) := hP
  have HLB := hP.lt
  clear hC hok hap hP
  go_enter Tryz.func57, Tryz.ntmps57
  go_wp2
  go_loopw [8] (fun i wr => ∃ j : Nat, j ≤ n ∧ i = .int .i64 j ∧ Below w.heap.size w wr ∧ Hid (∃ ps, Pu wr lo B ps ∧ ps.map (·.1) = ps0.map (·.1) ++ cs.take j) ∧ Hid (Chg v wr B (B + 1))) (fun i _ => n - (intOf i).toNat)
  case atStart => exact ⟨0, Nat.zero_le _, rfl, hbv, ⟨ps0, HPV.out, by simp⟩, Chg.refl _ _ _⟩
  case round =>
    obtain ⟨j, hj, rfl, hbel, HP, HCH⟩ := hrel
    by_cases hlt : j < n
    · rcases HC.out.2 with h0 | ⟨b, off, e0, l0, d0⟩
      · omega
      subst e0
      obtain ⟨ps, hPu, hps⟩ := HP.out
      obtain ⟨o, ho⟩ : ∃ o, o = cs.getD j C0 := ⟨_, rfl⟩
      obtain ⟨ka, kc, p0, p4, p5⟩ := d0 j hlt
      rw [← ho] at p0 p4 p5
      have hmem : o ∈ cs := by
        have e : cs.getD j C0 = cs[j]'(by rw [HN.out]; exact hlt) := by simp [List.getD, List.getElem?_eq_getElem (show j < cs.length by rw [HN.out]; exact hlt)]
        rw [ho, e]; exact List.getElem_mem _
      obtain ⟨g1, g2, g3, g4⟩ := coin_more (HOK.out o hmem)
      have hfn := find_none HN.out hlt ho hps HAP.out
      have HNX : Hid (cs.take (j + 1) = cs.take j ++ [o]) := by
        have e : cs.getD j C0 = cs[j]'(by rw [HN.out]; exact hlt) := by simp [List.getD, List.getElem?_eq_getElem (show j < cs.length by rw [HN.out]; exact hlt)]
        show _ = _
        rw [List.take_add_one, ho, e, List.getElem?_eq_getElem (by rw [HN.out]; exact hlt)]; rfl
      have hpl : ps.length = ps0.length + j := by
        have := congrArg List.length hps
        rw [List.length_map, List.length_append, List.length_map, List.length_take] at this
        have := HN.out
        omega
      obtain ⟨op, oq, ov, ol, ox, oy, oh, om⟩ := o
      simp only at p0 p4 p5 g1 g2 g3 g4 hfn
      rcases p5.2 with h0 | ⟨kb, ko, ek, hkl, _⟩
      · omega
      subst ek
      obtain ⟨x0, x1, x2, x3, x4, x5, x6, x7⟩ := p0.below hbel l0
      simp only at x0 x1 x2 x3 x4 x5 x6 x7
      have hbx : Below wr.heap.size wr (wr.alloc (.cells #[.int .i64 op, .int .i64 oq, .int .i64 ov, .slice (some ⟨kb, ko, none⟩) ol.length kc, .int .i64 ox, .int .i64 oy, .int .i64 oh, .bool om] 54)) := below_box _
      have hvs := HCH.out.size
      have hput := put_any B lo kb ko kc ps op oq ov ol ox oy oh om (wr.alloc (.cells #[.int .i64 op, .int .i64 oq, .int .i64 ov, .slice (some ⟨kb, ko, none⟩) ol.length kc, .int .i64 ox, .int .i64 oy, .int .i64 oh, .bool om] 54)) (hPu.below hbx) (Nat.le_trans hlo (Nat.le_trans hvs hbx.size)) (by omega) ((p5.below hbel (Nat.le_refl _)).below hbx (Nat.le_refl _)) (WalkArith.wf_i64 (by omega)) (WalkArith.wf_i64 (by omega)) hfn (by omega)
      have HPS : Hid (ps.map (·.1) = ps0.map (·.1) ++ cs.take j) := hps
      have HBX : Hid (Below w.heap.size w (wr.alloc (.cells #[.int .i64 op, .int .i64 oq, .int .i64 ov, .slice (some ⟨kb, ko, none⟩) ol.length kc, .int .i64 ox, .int .i64 oy, .int .i64 oh, .bool om] 54))) := hbel.trans (hbx.mono hbel.size)
      have HCX : Hid (Chg v (wr.alloc (.cells #[.int .i64 op, .int .i64 oq, .int .i64 ov, .slice (some ⟨kb, ko, none⟩) ol.length kc, .int .i64 ox, .int .i64 oy, .int .i64 oh, .bool om] 54)) B (B + 1)) := HCH.out.trans (Chg.of_below hbx _ _)
      clear ho d0 p0 p4 p5 hmem g1 g2 g3 g4 hfn hPu hps hbx
      have hki : (j : Int) < (n : Int) := by omega
      go_wp2_with (first
        | (go_at_call 78; (with_reducible refine hput.mono ?_); clear hput; rintro e w3 ⟨rfl, HPU, hch⟩; have HB3 : Hid (Below w.heap.size w w3) := HBX.out.trans (hch.below (by omega) (by have := HBX.out.size; omega)); have HC3 : Hid (Chg v w3 B (B + 1)) := HCX.out.trans hch; clear hch))
      go_roundw
      case rel =>
        obtain ⟨u, hu⟩ := HPU.out
        exact ⟨j + 1, by omega, by go_num, HB3.out, ⟨_, hu, by rw [List.map_append, HPS.out, HNX.out, List.append_assoc]; rfl⟩, HC3.out⟩
      case measure => simp [intOf]; omega
    · have e1 : cs.take j = cs := List.take_of_length_le (by rw [HN.out]; omega)
      go_wp2
      go_end0
      obtain ⟨ps, h1, h2⟩ := HP.out
      exact ⟨rfl, ⟨ps, h1, by rw [h2, e1]⟩, hbel, HCH.out⟩

set_option maxRecDepth 20000 in
set_option maxHeartbeats 2000000 in
theorem fillPurse_any (n c : Nat) (a : Option Addr) (cs : List Co) (w : World) (hn : n ≤ 1048576) (hk : ∀ j, j < n → (cs.getD j C0).l.length ≤ 1048576) (hC : CAt w a n cs) :
    Calls Tryz.prog 24 #[.slice a n c] w fun e w' => FillR w w' e cs := by
  have hF := iCoinsFault_any n c a cs w hn hk hC
  have HC : Hid (CAt w a n cs) := hC
  have hmm := @run_makeMap Tryz.prog
  obtain ⟨cd, hcd⟩ : ∃ r, r = coinsR cs := ⟨_, rfl⟩
  rw [← hcd] at hF
  have HCD : Hid (coinsR cs = cd) := hcd.symm
  by_cases h0 : cd = 0
  · subst h0
    obtain ⟨h40, hok, hri⟩ := coins_rise hcd.symm
    rw [hC.1] at h40
    have HOK : Hid (∀ c ∈ cs, coinR c = 0) := hok
    have HRI : Hid (cs.Pairwise (fun a b => (a.p, a.q) ≠ (b.p, b.q))) := rise_ne hri
    clear hcd hC hk hok hri
    go_enter Tryz.func24, Tryz.ntmps24
    go_wp2_with (first
      | (go_at_call 43; (with_reducible refine hF.mono ?_); clear hF; rintro e w2 ⟨rfl, hb2⟩; have hs2 := hb2.size; have hpa := putAll_any w2.heap.size w.heap.size n c a cs [] w (w2.alloc (.map #[] 0)) (by omega) (by simp) HC.out HOK.out (by simpa using HRI.out) (hb2.trans ((below_box _).mono hs2)) hs2 (by simp; omega) (Pu.made hs2); clear hb2)
      | (go_at_call 57; (with_reducible refine hpa.mono ?_); clear hpa; rintro e w3 ⟨rfl, HP, hB3, _⟩))
    refine bodyPost_ret (v := .tuple #[.map (some w2.heap.size), .int .i64 0]) (by simp [results, Tryz.results24, go_sem]) rfl ⟨hB3, .inr ⟨HCD.out, ?_⟩⟩
    obtain ⟨ps, h1, h2⟩ := HP.out
    exact ⟨_, ps, rfl, h1, by simpa using h2⟩
  · clear hcd hC hk
    go_enter Tryz.func24, Tryz.ntmps24
    go_wp2_with (first
      | (go_at_call 43; (with_reducible refine hF.mono ?_); clear hF; rintro e w2 ⟨rfl, hb2⟩))
    refine bodyPost_ret (v := .tuple #[.map none, .int .i64 cd]) (by simp [results, Tryz.results24, go_sem]) rfl ⟨hb2, .inl ⟨by rw [HCD.out]; exact h0, by rw [HCD.out]⟩⟩

/-- What CoinAt answers: a code, and the coin alone. -/
def atR (cs : List Co) (r : Int × Int) : Int × List Co := if coinsR cs ≠ 0 then (coinsR cs, []) else match cs.find? (fun c => decide ((c.p, c.q) = r)) with | none => (4, []) | some c => (0, [c])
/-- What an answer of coins is owed: new memory of its own. -/
def OutCs (w w' : World) (e : Ending) (cd : Int) (cs : List Co) : Prop :=
  ∃ v kv, e = .returned (.agg #[.int .i64 cd, v]) ∧ COwn w' w.heap.size w'.heap.size v cs.length (fun j => cs.getD j C0) kv ∧ Below w.heap.size w w'
theorem COwn.zero {w : World} {lo hi : Nat} (f : Nat → Co) : COwn w lo hi (.slice none 0 0) 0 f (fun _ => .slice none 0 0) :=
  ⟨⟨[], World.ownsRow_nil _ _ _ _, fun j hj => (by omega)⟩, fun b hb => (by cases hb), fun j hj => (by omega), fun i j _ hj => (by omega)⟩
end Go.Proofs.YtagokfoimokniaaGreatDoor
