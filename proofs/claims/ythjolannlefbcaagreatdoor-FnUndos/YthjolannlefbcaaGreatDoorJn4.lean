/- What the specification's TxText answers; what the program's owes. The program's refs written. A region that draws its order, by what holds whatever has been done of it. Rules that are drawn: whatever the bytes, some rule, its keys in memory of its own. Marks in coins are read back; the results that hold coins. The program's CoinAt. The program's CoinAt keeps its contract. The specification's copies of rules and coins. The specification's and the program's fault of members. The program's fault of members. The specification lets a member join. A tree that is drawn right. -/
import Derived.Test.YthjolannlefbcaaGreatDoorJn3
import Derived.Lib.Replace
import Derived.Lib.QuietBelow
import Derived.BigQuiet
import Derived.Lib.Join
import Derived.Deep.RegionLaw
import Derived.Test.YthjolannlefbcaaGreatDoorJn1
import Derived.Test.YthjolannlefbcaaGreatDoorJn2
import Derived.Maps.OwnSet
namespace Go.Proofs.YthjolannlefbcaaGreatDoor
open Go.RowKit Go.Shelf Go.Maps Go.WideMaps

theorem refsR_zero {rs : List (Int × Int)} : ∀ seen, refsR seen rs = 0 → ∀ r ∈ rs, refB r = true := by
  induction rs with
  | nil => intro _ _ r hr; cases hr
  | cons a t ih =>
    intro seen h
    rw [refsR] at h
    by_cases h1 : refB a = false
    · rw [if_pos h1] at h; cases h
    · rw [if_neg h1] at h
      by_cases h2 : memB seen a = true
      · rw [if_pos h2] at h; cases h
      · rw [if_neg h2] at h
        intro r hr
        rcases List.mem_cons.1 hr with rfl | hr
        · simpa using h1
        · exact ih _ h r hr
theorem outsR_rule {os : List Ou} (h : outsR os = 0) : ∀ o ∈ os, ruleR o.l o.x o.y = 0 := by
  induction os with
  | nil => intro o ho; cases ho
  | cons a t ih =>
    rw [outsR] at h
    by_cases h1 : inB a.v 1 1000000 = false
    · rw [if_pos h1] at h; cases h
    · rw [if_neg h1] at h
      by_cases h2 : ruleR a.l a.x a.y ≠ 0
      · rw [if_pos h2] at h; exact absurd h h2
      · rw [if_neg h2] at h
        intro o ho
        rcases List.mem_cons.1 ho with rfl | ho
        · exact Classical.not_not.1 h2
        · exact ih h o ho
theorem getD_mem {α : Type} {l : List α} {j : Nat} {d : α} (h : j < l.length) : l.getD j d ∈ l := by
  rw [List.getD, List.getElem?_eq_getElem h]
  exact List.getElem_mem _
theorem txOk_of {k f : Int} {rs : List (Int × Int)} {os : List Ou} (h : 0 = txR k f rs os) : TxOk k f rs os := by
  obtain ⟨hm4, hv⟩ := txR_zero rfl h
  unfold txR at h
  by_cases h1 : inB k 0 2 = false ∨ ¬ (k = 0 ↔ f = 0)
  · rw [if_pos h1] at h; cases h
  rw [if_neg h1] at h
  by_cases h2 : k ≠ 0 ∧ inB f 1 999 = false
  · rw [if_pos h2] at h; cases h
  rw [if_neg h2] at h
  by_cases h3 : inB rs.length 1 4 = false ∨ inB os.length 1 4 = false
  · rw [if_pos h3] at h; cases h
  rw [if_neg h3] at h
  have h4 : inB rs.length 1 4 = true := by
    cases e : inB rs.length 1 4
    · exact absurd (.inl e) h3
    · rfl
  by_cases h5 : refsR [] rs ≠ 0
  · rw [if_pos h5] at h; exact absurd h.symm h5
  rw [if_neg h5] at h
  unfold joinR at h
  by_cases h6 : outsR os ≠ 0
  · rw [if_pos h6] at h; exact absurd h.symm h6
  have hk := inB_true.1 (show inB k 0 2 = true by cases e : inB k 0 2; exact absurd (.inl e) h1; rfl)
  have hkf : k = 0 ↔ f = 0 := Classical.not_not.1 fun e => h1 (.inr e)
  have hn := inB_true.1 h4
  have hrs := refsR_zero [] (Classical.not_not.1 h5)
  have hos := outsR_rule (Classical.not_not.1 h6)
  refine ⟨by omega, ?_, by omega, hm4, fun j hj => ?_, fun j hj => ?_⟩
  · by_cases k0 : k = 0
    · have := hkf.1 k0; omega
    · have := inB_true.1 (show inB f 1 999 = true by cases e : inB f 1 999; exact absurd ⟨k0, e⟩ h2; rfl)
      omega
  · have := hrs _ (getD_mem (d := G0) hj)
    unfold refB at this
    have a := (Bool.and_eq_true _ _).mp this
    have a1 := inB_true.1 a.1
    have a2 := inB_true.1 a.2
    omega
  · have hr := hos _ (getD_mem (d := O0) hj)
    obtain ⟨b1, b2, b3, b4⟩ := ruleR_zero rfl hr
    have hvv := hv j hj
    exact ⟨⟨by omega, by omega⟩, b1, ⟨by omega, by omega⟩, b3, fun i hi => by have := b4 _ (getD_mem (d := 0) hi); omega⟩

def ttR (k f : Int) (rs : List (Int × Int)) (os : List Ou) : Int × List UInt8 := if txR k f rs os ≠ 0 then (txR k f rs os, []) else if 300 < (txT k f rs os).length then (2, []) else (0, txT k f rs os)

set_option maxHeartbeats 1000000 in
theorem sTxText_any (n c m d : Nat) (ia oa : Option Addr) (k f : Int) (rs : List (Int × Int)) (os : List Ou) (w : World) (hn : n ≤ 1048576) (hm : m ≤ 1048576) (hc1 : n ≤ c) (hc2 : c ≤ maxLen) (hk : ∀ j, j < m → (os.getD j O0).l.length ≤ 1048576) (h : TxAt w ia n oa m rs os) :
    Calls Tryz.prog 71 #[.agg #[.int .i64 k, .int .i64 f, .slice ia n c, .slice oa m d]] w fun e w' => e = .returned (.agg #[.int .i64 (ttR k f rs os).1, .string (str (ttR k f rs os).2)]) ∧ Below w.heap.size w w' := by
  have hbx : Below w.heap.size w ((w.alloc (.cells #[.int .i64 k, .int .i64 f, .slice ia n c, .slice oa m d] 28)).alloc (.cells #[.int .i64 0, .string ByteArray.empty] 125)) := below_box2 _ _
  have T0 := show Hid (((w.alloc (.cells #[.int .i64 k, .int .i64 f, .slice ia n c, .slice oa m d] 28)).alloc (.cells #[.int .i64 0, .string ByteArray.empty] 125)).heap[w.heap.size]? = some (.cells #[.int .i64 k, .int .i64 f, .slice ia n c, .slice oa m d] 28 (0, 0))) from block_at2
  have T1 := show Hid (((w.alloc (.cells #[.int .i64 k, .int .i64 f, .slice ia n c, .slice oa m d] 28)).alloc (.cells #[.int .i64 0, .string ByteArray.empty] 125)).heap[w.heap.size + 1]? = some (.cells #[.int .i64 0, .string ByteArray.empty] 125 (0, 0))) from heap_alloc_at _ _ _ (by simp)
  have hS := l3Fault_any w.heap.size n c m d ia oa k f rs os _ hn hm hc1 hc2 hk (h.below hbx (Nat.le_refl _)) T0.out
  have HBX : Hid (Below w.heap.size w ((w.alloc (.cells #[.int .i64 k, .int .i64 f, .slice ia n c, .slice oa m d] 28)).alloc (.cells #[.int .i64 0, .string ByteArray.empty] 125))) := hbx
  have HT : Hid (TxAt w ia n oa m rs os) := h
  clear hbx h hk
  obtain ⟨cd, hcd⟩ : ∃ c, c = txR k f rs os := ⟨_, rfl⟩
  rw [← hcd] at hS
  by_cases hz : cd = 0
  · subst hz
    have HOK : Hid (TxOk k f rs os) := txOk_of hcd
    obtain ⟨t, ht⟩ : ∃ t, t = txT k f rs os := ⟨_, rfl⟩
    have HTX : Hid (t = txT k f rs os) := ht
    have hss : (str t).size = t.length := rfl
    by_cases hlen : 300 < t.length
    · have hr : ttR k f rs os = (2, []) := by unfold ttR; rw [← hcd, if_neg (by simp), ← ht, if_pos hlen]
      rw [hr]
      clear hr hcd ht
      have hli : (300 : Int) < (t.length : Int) := by omega
      go_enter Tryz.func71, Tryz.ntmps71
      go_wp2_with (first
        | (go_at_call 44; refine hS.mono ?_; clear hS; rintro e w2 ⟨rfl, hb2⟩; have HT2 := keepb T1.out hb2; have HP2 := keepb T0.out hb2; have HBW : Hid (Below w.heap.size w w2) := HBX.out.trans (hb2.mono (by simp; omega)); obtain ⟨⟨p0, p1, p2, p3, _⟩, _⟩ := res4 T0.out hb2 (by simp; omega); have hsm := l3Text_any w.heap.size n c m d ia oa k f rs os w2 HOK.out (HT.out.below HBW.out (Nat.le_refl _)) (lt_of_block HP2.out) p0 p1 p2 p3; rw [← HTX.out] at hsm; clear hb2 p0 p1 p2 p3)
        | (go_at_call 114; refine hsm.mono ?_; clear hsm; rintro e w3 ⟨rfl, hb3⟩; have HBV : Hid (Below w.heap.size w w3) := HBW.out.trans (hb3.mono HBW.out.size); obtain ⟨q0, q1, q2, q3, HR⟩ := res_cells HT2.out hb3 (lt_of_block HT2.out); clear hb3))
      obtain ⟨s0, s1, s2⟩ := two_set HR.out (.int .i64 2) (.string ⟨#[]⟩)
      exact bodyPost_ret (v := .agg #[.int .i64 2, .string ⟨#[]⟩]) (by simp [results, Tryz.results71, go_sem, s0, s1]) rfl ⟨rfl, below_res HBV.out _ _⟩
    · have hr : ttR k f rs os = (0, t) := by unfold ttR; rw [← hcd, if_neg (by simp), ← ht, if_neg hlen]
      rw [hr]
      clear hr hcd ht
      have hli : ¬ (300 : Int) < (t.length : Int) := by omega
      go_enter Tryz.func71, Tryz.ntmps71
      go_wp2_with (first
        | (go_at_call 44; refine hS.mono ?_; clear hS; rintro e w2 ⟨rfl, hb2⟩; have HT2 := keepb T1.out hb2; have HP2 := keepb T0.out hb2; have HBW : Hid (Below w.heap.size w w2) := HBX.out.trans (hb2.mono (by simp; omega)); obtain ⟨⟨p0, p1, p2, p3, _⟩, _⟩ := res4 T0.out hb2 (by simp; omega); have hsm := l3Text_any w.heap.size n c m d ia oa k f rs os w2 HOK.out (HT.out.below HBW.out (Nat.le_refl _)) (lt_of_block HP2.out) p0 p1 p2 p3; rw [← HTX.out] at hsm; clear hb2 p0 p1 p2 p3)
        | (go_at_call 114; refine hsm.mono ?_; clear hsm; rintro e w3 ⟨rfl, hb3⟩; have HBV : Hid (Below w.heap.size w w3) := HBW.out.trans (hb3.mono HBW.out.size); obtain ⟨q0, q1, q2, q3, HR⟩ := res_cells HT2.out hb3 (lt_of_block HT2.out); clear hb3))
      obtain ⟨s0, s1, s2⟩ := two_set HR.out (.int .i64 0) (.string (str t))
      exact bodyPost_ret (v := .agg #[.int .i64 0, .string (str t)]) (by simp [results, Tryz.results71, go_sem, s0, s1]) rfl ⟨rfl, below_res HBV.out _ _⟩
  · have hr : ttR k f rs os = (cd, []) := by unfold ttR; rw [← hcd, if_pos hz]
    rw [hr]
    clear hr hcd
    go_enter Tryz.func71, Tryz.ntmps71
    go_wp2_with (first
      | (go_at_call 44; refine hS.mono ?_; rintro e w2 ⟨rfl, hb2⟩; obtain ⟨q0, q1, q2, q3, HR⟩ := res_cells T1.out hb2 (by simp); have HBW : Hid (Below w.heap.size w w2) := HBX.out.trans (hb2.mono (by simp; omega)); clear hb2))
    obtain ⟨s0, s1, s2⟩ := two_set HR.out (.int .i64 cd) (.string ⟨#[]⟩)
    exact bodyPost_ret (v := .agg #[.int .i64 cd, .string ⟨#[]⟩]) (by simp [results, Tryz.results71, go_sem, s0, s1]) rfl ⟨rfl, below_res HBW.out _ _⟩

end Go.Proofs.YthjolannlefbcaaGreatDoor

namespace Go.Proofs.YthjolannlefbcaaGreatDoor
open Go.RowKit Go.Shelf Go.Maps Go.WideMaps

def texts (ls : List (List UInt8)) : List Value := ls.map fun t => .string (str t)
/-- An append as one step of a region that draws, out of its own run. -/
theorem step_append_run {P : Program} {w : World} {ops : Array Oper} {o : Oper} {a : Act} {K : Act → World → Prop} {Q : Exit → Act → World → Prop} {E : Prop} (hgd : o.guard = none) (s x : Operand) (t : TypeId)
    (hop : o.op = .call { callee := .builtin .append, args := #[s, x], argTypes := #[t, t] }) {v u v' : Value} {w' : World} (hs : a.eval s = v) (hx : a.eval x = u) (hrun : (Builtin.append_ #[t, t] o.type #[v, u]).run P w = .ok v' w') (h : K (a.put o.dst v') w') :
    if Region.wanted o (yielded ops a.tmps) = true then Oper.wp P o a w K Q else E := by
  rw [if_pos (by simp [Region.wanted, hgd])]
  unfold Oper.wp
  simp [execOp, hop, resolve, invoke, builtin, hs, hx, hrun, Result.andThen]
  exact h

end Go.Proofs.YthjolannlefbcaaGreatDoor

namespace Go.Proofs.YthjolannlefbcaaGreatDoor
open Go.RowKit

section
variable {P : Program} {md : Region.Mode} {ops : Array Oper} {Q : Exit → Act → World → Prop}
theorem count_set_lt {l : List Bool} {i : Nat} (h : l[i]? = some false) : (l.set i true).count false + 1 = l.count false := by
  induction l generalizing i with
  | nil => simp at h
  | cons b t ih =>
    cases i with
    | zero =>
      simp at h
      subst h
      simp
    | succ i =>
      simp at h
      have := ih h
      cases b <;> simp at this ⊢ <;> omega
theorem listed_false {L : Array Bool} {i : Nat} (h : L.getD i true = false) : L.toList[i]? = some false := by
  by_cases hi : i < L.size
  · simp [Array.getD, hi] at h
    simp [hi, h]
  · simp [Array.getD, hi] at h
theorem wpAny_inv (Inv : Array Bool → Act → World → Prop)
    (hs : ∀ L a w i, Inv L a w → i ∈ Region.ready md ops L → wpOp P ops Q i (Inv (L.setIfInBounds i true)) a w)
    (he : ∀ L a w, Inv L a w → Region.ready md ops L = [] → Q .normal a w) :
    ∀ (fuel : Nat) (L : Array Bool) (a : Act) (w : World), L.toList.count false ≤ fuel → Inv L a w → wpAny P md ops Q fuel L a w
  | 0, L, a, w, hc, hI => by
    have hr : Region.ready md ops L = [] := by
      refine List.eq_nil_iff_forall_not_mem.2 fun i hi => ?_
      have h1 := listed_false (mem_ready.1 hi).1
      have h2 := List.count_pos_iff.2 (List.mem_of_getElem? h1)
      omega
    exact ⟨hr, he L a w hI hr⟩
  | fuel + 1, L, a, w, hc, hI => by
    refine ⟨fun h0 => he L a w hI h0, fun i hi => wpOp_mono (fun a' w' h' => wpAny_inv Inv hs he fuel _ a' w' ?_ h') (hs L a w i hI hi)⟩
    have h1 := count_set_lt (listed_false (mem_ready.1 hi).1)
    rw [Array.toList_setIfInBounds]
    omega
/-- Each waits for earlier ones alone. -/
def backB (md : Region.Mode) (ops : Array Oper) : Bool := (List.range ops.size).all fun i => match ops[i]? with
  | some o => o.after.toList.all fun e => !Region.binds md e || decide (e.on < i)
  | none => true
theorem ready_all {L : Array Bool} (hb : backB md ops = true) (h : Region.ready md ops L = []) : ∀ i, i < ops.size → L.getD i true = true := by
  intro i
  induction i using Nat.strongRecOn with
  | ind i ih =>
    intro hi
    cases hL : L.getD i true with
    | true => rfl
    | false =>
      exfalso
      have ho : ops[i]? = some ops[i] := Array.getElem?_eq_getElem hi
      have : i ∈ Region.ready md ops L := mem_ready.2 ⟨hL, _, ho, fun e he hbi => by
        unfold backB at hb
        rw [List.all_eq_true] at hb
        have h1 := hb i (List.mem_range.2 hi)
        rw [ho] at h1
        simp only [List.all_eq_true] at h1
        have h2 : e.on < i := by
          have h0 := h1 e (by simpa using he)
          rw [hbi] at h0
          simpa using h0
        have h3 := ih e.on h2 (by omega)
        have h4 := listed_false hL
        have h5 : i < L.size := by
          have := (List.getElem?_eq_some_iff.1 h4).1
          simpa using this
        simp [Array.getD, show e.on < L.size by omega] at h3 ⊢
        exact h3⟩
      rw [h] at this
      cases this
/-- Does one wait for another? -/
def depB (md : Region.Mode) (ops : Array Oper) (i d : Nat) : Bool := match ops[i]? with
  | some o => o.after.toList.any fun e => Region.binds md e && e.on == d
  | none => false
theorem ready_dep {L : Array Bool} {i d : Nat} (hi : i ∈ Region.ready md ops L) (hd : depB md ops i d = true) : L.getD d false = true := by
  obtain ⟨_, o, ho, ha⟩ := mem_ready.1 hi
  unfold depB at hd
  rw [ho] at hd
  simp only [List.any_eq_true, Bool.and_eq_true, beq_iff_eq] at hd
  obtain ⟨e, he, h1, h2⟩ := hd
  rw [← h2]
  exact ha e (by simpa using he) h1
theorem ready_lt {L : Array Bool} {i : Nat} (hi : i ∈ Region.ready md ops L) : i < ops.size := by
  obtain ⟨_, o, ho, _⟩ := mem_ready.1 hi
  exact (Array.getElem?_eq_some_iff.1 ho).1
theorem ready_new {L : Array Bool} {i : Nat} (hi : i ∈ Region.ready md ops L) : L.getD i true = false := (mem_ready.1 hi).1
theorem wpOp_run {i : Nat} {o : Oper} {a : Act} {w : World} {K : Act → World → Prop} (ho : ops[i]? = some o)
    (h : ∀ K' : Act → World → Prop, (∀ a w, K a w → K' a w) → if Region.wanted o (yielded ops a.tmps) = true then Oper.wp P o a w K' Q else K' (a.put o.dst undef) w) : wpOp P ops Q i K a w := by
  unfold wpOp
  rw [ho]
  have := h K (fun _ _ h => h)
  simp only
  split
  · rename_i hw
    rw [if_pos hw] at this
    exact .inl this
  · rename_i hw
    rw [if_neg hw] at this
    exact this
end

end Go.Proofs.YthjolannlefbcaaGreatDoor

namespace Go.Proofs.YthjolannlefbcaaGreatDoor
open Go.RowKit Go.Shelf Go.Maps Go.WideMaps

section
variable {w w2 W v : World} {b c : Nat} {c0 c1 c2 : Value} {t : TypeId}
theorem three_heapK (hne : c ≠ b) (v0 v1 v2 : Value) : (((w.setCell ⟨b, 0, none⟩ v0).setCell ⟨b, 1, none⟩ v1).setCell ⟨b, 2, none⟩ v2).heap[c]? = w.heap[c]? :=
  (Below.heap_setCell _ ⟨b, 2, none⟩ _ c hne).trans ((Below.heap_setCell _ ⟨b, 1, none⟩ _ c hne).trans (Below.heap_setCell _ ⟨b, 0, none⟩ _ c hne))
end

/-- A rule under way in block LB, the result's block behind what was there, the source as it goes. -/
structure Dk (w v V : World) (SB : Nat) (ca : Option Addr) (cn cc t LB : Nat) (va : Option Addr) (vc : Nat) (l : List Int) (x y : Int) : Prop where
  box : V.heap[LB]? = some (.cells #[.slice va l.length vc, .int .i64 x, .int .i64 y] 71 (0, 0))
  res : V.heap[v.heap.size]? = some (.cells #[.slice none 0 0, .int .i64 0, .int .i64 0] 71 (0, 0))
  src : Src w V SB ca cn cc t
  chg : Chg v V SB (SB + 1)
  row : V.ownsRow (v.heap.size + 1) 2 1 (.slice va l.length vc) l.length (ints l)
  ord : SB < v.heap.size ∧ v.heap.size < LB
theorem intk_added {W : World} {lo X j : Nat} {v : Value} {ks : List Int} {k : Int} (h : W.ownsRow lo 2 1 v j (ints ks)) (hX : W.heap[X]? = some (.cells #[.int .i64 k] 2 (0, 0))) (hj : j ≤ 1000) (hlo : lo ≤ W.heap.size) :
    ∃ g cap w5, (Builtin.append_ #[69, 69] 69 #[v, .slice (some ⟨X, 0, none⟩) 1 1]).run Tryz.prog W = .ok (.slice (some ⟨g, 0, none⟩) (j + 1) cap) w5 ∧
      Hid (w5.ownsRow lo 2 1 (.slice (some ⟨g, 0, none⟩) (j + 1) cap) (j + 1) (ints (ks ++ [k])) ∧ W.grownBy w5 v.ownBlock) := by
  obtain ⟨i0, hi, hz0, hz1, hz2⟩ := info_parts Tryz.infoI64
  obtain ⟨v', w5, hrun, hown', hgrow, hsome⟩ := run_append_own (P := Tryz.prog) W lo 69 69 2 i0 (.int .i64 0) 1 8 Tryz.underlying69 hi hz0 hz1 hz2 rfl (by decide) v j (ints ks) h ⟨X, 0, none⟩ 1 1 [.int .i64 k] rfl (World.news_of_block hX) (by
    intro z hz
    simp only [List.mem_cons, List.not_mem_nil, or_false] at hz
    subst hz; rfl) (by unfold maxLen; omega) (by omega) hlo
  obtain ⟨g, cap, rfl⟩ := ownsRow_succ hown'
  refine ⟨g, cap, w5, hrun, ?_, hgrow⟩
  rw [show ints (ks ++ [k]) = ints ks ++ [.int .i64 k] by simp [ints]]
  exact hown'
theorem row_neR {V : World} {base n c LB : Nat} {a : Option Addr} {xs cs : List Value} {fz : Nat × Nat} (hr : V.ownsRow base 2 1 (.slice a n c) n xs) (hb : V.heap[LB]? = some (.cells cs.toArray 71 fz)) : ∀ b, Value.ownBlock (.slice a n c) = some b → b ≠ LB := by
  intro b hbb e
  subst e
  rcases hr.2 with ⟨e1, _⟩ | ⟨g, cap, cur, e1, _, h2, _⟩
  · rw [e1] at hbb; cases hbb
  · rw [e1] at hbb
    have e2 : g = b := by simpa [Value.ownBlock] using hbb
    subst e2
    rw [h2] at hb
    have := Option.some.inj hb
    injection this with _ e3
    exact absurd e3 (by decide)
section
variable {w v V V' : World} {SB : Nat} {ca : Option Addr} {cn cc t t' LB : Nat} {va : Option Addr} {vc : Nat} {l : List Int} {x y : Int}
theorem chgMoreK {lo hi B : Nat} (h : Chg v V lo hi) (hb : Below B V V') (hB : v.heap.size ≤ B) : Chg v V' lo hi := ⟨hb.os.trans h.os, hb.tape.trans h.tape, hb.output.trans h.output, Nat.le_trans h.size hb.size, fun b hbs ho => (hb.block b (by omega)).trans (h.block b hbs ho)⟩
theorem Dk.step (H : Dk w v V SB ca cn cc t LB va vc l x y) (hb : Below V.heap.size V V') : Dk w v V' SB ca cn cc t LB va vc l x y :=
  ⟨(keepb H.box hb).out, (keepb H.res hb).out, H.src.step hb, chgMoreK H.chg hb H.chg.size, H.row.kept (grown_of_below hb) (by cases Value.ownBlock (.slice va l.length vc) <;> simp), H.ord⟩
theorem Dk.draw (H : Dk w v V SB ca cn cc t LB va vc l x y) (hS : Src w V' SB ca cn cc t') (hc : Chg V V' SB (SB + 1)) : Dk w v V' SB ca cn cc t' LB va vc l x y := by
  have := H.ord
  exact ⟨hc.keep1 H.box (by omega), hc.keep1 H.res (by omega), hS, H.chg.trans hc, hc.row1 H.row (by omega), H.ord⟩
theorem Dk.lt (H : Dk w v V SB ca cn cc t LB va vc l x y) : LB < V.heap.size := lt_of_block H.box
theorem Dk.cells (H : Dk w v V SB ca cn cc t LB va vc l x y) : V.cell? ⟨LB, 0, none⟩ = some (.slice va l.length vc) ∧ V.cell? ⟨LB, 1, none⟩ = some (.int .i64 x) ∧ V.cell? ⟨LB, 2, none⟩ = some (.int .i64 y) := cells3 H.box
theorem Dk.fz (H : Dk w v V SB ca cn cc t LB va vc l x y) (i : Nat) : V.frozen? ⟨LB, i, none⟩ = false := Joins.unfrozen_of_block H.box i
theorem Dk.ne (H : Dk w v V SB ca cn cc t LB va vc l x y) : ∀ b, Value.ownBlock (.slice va l.length vc) = some b → b ≠ LB := row_neR (cs := [.slice va l.length vc, .int .i64 x, .int .i64 y]) H.row H.box
/-- A number of the rule is set. -/
theorem Dk.setk {x' y' : Int} {i : Nat} {u : Value} (H : Dk w v V SB ca cn cc t LB va vc l x y) (hq : (#[.slice va l.length vc, .int .i64 x, .int .i64 y] : Array Value).setIfInBounds i u = #[.slice va l.length vc, .int .i64 x', .int .i64 y']) : Dk w v (V.setCell ⟨LB, i, none⟩ u) SB ca cn cc t LB va vc l x' y' := by
  have ho := H.ord
  refine ⟨?_, (Below.heap_setCell _ ⟨LB, i, none⟩ _ v.heap.size (show v.heap.size ≠ LB by omega)).trans H.res, ?_, ?_, ownsRow_setCell_other H.row (a := ⟨LB, i, none⟩) (fun e => H.ne _ e rfl) u, ho⟩
  · have := Joins.block_setCell (i := i) H.box u
    rw [hq] at this
    exact this
  · exact ⟨(Below.heap_setCell _ ⟨LB, i, none⟩ _ SB (show SB ≠ LB by omega)).trans H.src.box, H.src.bel.setCell (p := ⟨LB, i, none⟩) (show w.heap.size ≤ LB by have := H.src.sb; omega) _, H.src.sb⟩
  · exact ⟨H.chg.os, H.chg.tape, H.chg.output, by simpa using H.chg.size, fun b hb hd => (Below.heap_setCell _ ⟨LB, i, none⟩ _ b (show b ≠ LB by omega)).trans (H.chg.block b hb hd)⟩
/-- The keys are others, in memory at least as new as the result's block. -/
theorem Dk.other {l' : List Int} {a' : Option Addr} {c' : Nat} (H : Dk w v V SB ca cn cc t LB va vc l x y) (hr : V.ownsRow (v.heap.size + 1) 2 1 (.slice a' l'.length c') l'.length (ints l')) :
    Dk w v (V.setCell ⟨LB, 0, none⟩ (.slice a' l'.length c')) SB ca cn cc t LB a' c' l' x y := by
  have ho := H.ord
  have hne : ∀ b, Value.ownBlock (.slice a' l'.length c') = some b → b ≠ LB := row_neR (cs := [.slice va l.length vc, .int .i64 x, .int .i64 y]) hr H.box
  refine ⟨?_, (Below.heap_setCell _ ⟨LB, 0, none⟩ _ v.heap.size (show v.heap.size ≠ LB by omega)).trans H.res, ?_, ?_, ownsRow_setCell_other hr (a := ⟨LB, 0, none⟩) (fun e => hne _ e rfl) _, ho⟩
  · have := Joins.block_setCell (i := 0) H.box (.slice a' l'.length c')
    simpa using this
  · exact ⟨(Below.heap_setCell _ ⟨LB, 0, none⟩ _ SB (show SB ≠ LB by omega)).trans H.src.box, H.src.bel.setCell (p := ⟨LB, 0, none⟩) (show w.heap.size ≤ LB by have := H.src.sb; omega) _, H.src.sb⟩
  · exact ⟨H.chg.os, H.chg.tape, H.chg.output, by simpa using H.chg.size, fun b hb hd => (Below.heap_setCell _ ⟨LB, 0, none⟩ _ b (show b ≠ LB by omega)).trans (H.chg.block b hb hd)⟩
/-- A rule begun with one key. -/
theorem Dk.start (hS : Src w V SB ca cn cc t) (hc : Chg v V SB (SB + 1)) (hr : V.heap[v.heap.size]? = some (.cells #[.slice none 0 0, .int .i64 0, .int .i64 0] 71 (0, 0))) (hl : SB < v.heap.size) (k : Int) : Dk w v ((V.alloc (.cells #[.int .i64 k] 2)).alloc (.cells #[.slice (some ⟨V.heap.size, 0, none⟩) 1 1, .int .i64 0, .int .i64 0] 71)) SB ca cn cc t (V.heap.size + 1) (some ⟨V.heap.size, 0, none⟩) 1 [k] 0 0 := by
  have hb := below_box2 (w := V) (.cells #[.int .i64 k] 2) (.cells #[.slice (some ⟨V.heap.size, 0, none⟩) 1 1, .int .i64 0, .int .i64 0] 71)
  have h1 : ((V.alloc (.cells #[.int .i64 k] 2)).alloc (.cells #[.slice (some ⟨V.heap.size, 0, none⟩) 1 1, .int .i64 0, .int .i64 0] 71)).heap[V.heap.size]? = some (.cells #[.int .i64 k] 2 (0, 0)) := (keepb (heap_alloc_new V _) (below_box _)).out
  have hlt := lt_of_block hr
  refine ⟨heap_alloc_at _ _ _ (by simp), (keepb hr hb).out, hS.step hb, hc.trans (Chg.of_below hb _ _), ⟨rfl, .inr ⟨V.heap.size, 1, #[.int .i64 k], rfl, hlt, h1, Nat.le_refl _, by unfold maxLen; omega, rfl, rfl⟩⟩, hl, by omega⟩
/-- One key more. -/
theorem Dk.more {k : Int} (H : Dk w v V SB ca cn cc t LB va vc l x y) (hl : l.length ≤ 500) :
    ∃ g cap w5, (Builtin.append_ #[69, 69] 69 #[.slice va l.length vc, .slice (some ⟨V.heap.size, 0, none⟩) 1 1]).run Tryz.prog (V.alloc (.cells #[.int .i64 k] 2)) = .ok (.slice (some ⟨g, 0, none⟩) (l.length + 1) cap) w5 ∧
      (w5.cell? ⟨LB, 0, none⟩ = some (.slice va l.length vc) ∧ w5.frozen? ⟨LB, 0, none⟩ = false) ∧ Hid (Dk w v (w5.setCell ⟨LB, 0, none⟩ (.slice (some ⟨g, 0, none⟩) (l.length + 1) cap)) SB ca cn cc t LB (some ⟨g, 0, none⟩) cap (l ++ [k]) x y) := by
  have H1 := H.step (below_box (.cells #[.int .i64 k] 2))
  have ho := H.ord
  have hlt := H.lt
  have hvs := H.chg.size
  have hss := H.src.lt
  obtain ⟨g, cap, w5, hrun, HG⟩ := intk_added (k := k) (X := V.heap.size) H1.row (heap_alloc_new _ _) (by omega) (by simp; omega)
  obtain ⟨hown, hgr⟩ := HG.out
  have hbk : ∀ b, b < v.heap.size + 1 ∨ b = LB → b < V.heap.size → w5.heap[b]? = (V.alloc (.cells #[.int .i64 k] 2)).heap[b]? := fun b hb hs => hgr.block b (by simp; omega) (fun e => by
    rcases hb with hb | hb
    · have := (H1.row.lt b e.symm).1; omega
    · exact H1.ne b e.symm hb)
  have b5 := (hbk LB (.inr rfl) hlt).trans H1.box
  have c3 := (cells3 b5).1
  have f3 := Joins.unfrozen_of_block b5 0
  refine ⟨g, cap, w5, hrun, ⟨c3, f3⟩, ?_⟩
  have hlen : (l ++ [k]).length = l.length + 1 := by simp
  have hne := row_neR (cs := [.slice va l.length vc, .int .i64 x, .int .i64 y]) hown b5
  show Dk _ _ _ _ _ _ _ _ _ _ _ _ _ _
  refine ⟨?_, (Below.heap_setCell _ ⟨LB, 0, none⟩ _ v.heap.size (show v.heap.size ≠ LB by omega)).trans ((hbk _ (.inl (by omega)) (by omega)).trans H1.res), ?_, ?_, ?_, ho⟩
  · have := Joins.block_setCell (i := 0) b5 (.slice (some ⟨g, 0, none⟩) (l.length + 1) cap)
    rw [hlen]
    simpa using this
  · refine ⟨(Below.heap_setCell _ ⟨LB, 0, none⟩ _ SB (show SB ≠ LB by omega)).trans ((hbk SB (.inl (by omega)) (by omega)).trans H1.src.box), ?_, H.src.sb⟩
    have hsb := H.src.sb
    refine Below.setCell (p := ⟨LB, 0, none⟩) ?_ (show w.heap.size ≤ LB by omega) _
    exact ⟨hgr.os.trans H1.src.bel.os, hgr.tape.trans H1.src.bel.tape, hgr.output.trans H1.src.bel.output, Nat.le_trans H1.src.bel.size hgr.size, fun b hb => (hbk b (.inl (by omega)) (by have := H.src.bel.size; omega)).trans (H1.src.bel.block b hb)⟩
  · have hg5 := hgr.size
    exact ⟨hgr.os.trans H1.chg.os, hgr.tape.trans H1.chg.tape, hgr.output.trans H1.chg.output, by have := H1.chg.size; simp only [World.size_setCell]; omega, fun b hb hd => (Below.heap_setCell _ ⟨LB, 0, none⟩ _ b (show b ≠ LB by omega)).trans ((hbk b (.inl (by omega)) (by omega)).trans (H1.chg.block b hb hd))⟩
  · rw [hlen]
    exact ownsRow_setCell_other hown (a := ⟨LB, 0, none⟩) (fun e => hne _ e rfl) _
/-- The rule is handed back. -/
def OutDk (w v : World) (SB : Nat) (ca : Option Addr) (cn cc T : Nat) (e : Ending) (v' : World) (K : List Int → Int → Int → Prop) : Prop :=
  ∃ (l : List Int) (x y : Int) (va : Option Addr) (vc t' : Nat), e = .returned (.agg #[.slice va l.length vc, .int .i64 x, .int .i64 y]) ∧ Hid (v'.ownsRow v.heap.size 2 1 (.slice va l.length vc) l.length (ints l)) ∧ Hid (K l x y) ∧ t' ≤ T ∧ Hid (Src w v' SB ca cn cc t') ∧ Hid (Chg v v' SB (SB + 1))
theorem Dk.ret (H : Dk w v V SB ca cn cc t LB va vc l x y) {T : Nat} (hT : t ≤ T) {K : List Int → Int → Int → Prop} (hK : K l x y) {e : Ending} (he : e = .returned (.agg #[.slice va l.length vc, .int .i64 x, .int .i64 y])) (v0 v1 v2 : Value) :
    OutDk w v SB ca cn cc T e (((V.setCell ⟨v.heap.size, 0, none⟩ v0).setCell ⟨v.heap.size, 1, none⟩ v1).setCell ⟨v.heap.size, 2, none⟩ v2) K := by
  have ho := H.ord
  have hsb := H.src.sb
  refine ⟨l, x, y, va, vc, t, he, Joins.ownsRow_le (ownsRow_setCell_below (ownsRow_setCell_below (ownsRow_setCell_below H.row (a := ⟨v.heap.size, 0, none⟩) (show v.heap.size < _ by omega) _) (a := ⟨v.heap.size, 1, none⟩) (show v.heap.size < _ by omega) _) (a := ⟨v.heap.size, 2, none⟩) (show v.heap.size < _ by omega) _) (by omega), hK, hT, ?_, ?_⟩
  · exact ⟨(three_heapK (b := v.heap.size) (c := SB) (by omega) _ _ _).trans H.src.box, ((H.src.bel.setCell (p := ⟨v.heap.size, 0, none⟩) (show w.heap.size ≤ v.heap.size by omega) _).setCell (p := ⟨v.heap.size, 1, none⟩) (show w.heap.size ≤ v.heap.size by omega) _).setCell (p := ⟨v.heap.size, 2, none⟩) (show w.heap.size ≤ v.heap.size by omega) _, hsb⟩
  · exact ⟨H.chg.os, H.chg.tape, H.chg.output, by simpa using H.chg.size, fun b hb hd => (three_heapK (b := v.heap.size) (c := b) (by omega) _ _ _).trans (H.chg.block b hb hd)⟩
end

theorem iatK3 (V : World) (a b c : Int) : IAt (V.alloc (.cells #[.int .i64 a, .int .i64 b, .int .i64 c] 2)) (some ⟨V.heap.size, 0, none⟩) 3 [a, b, c] :=
  ⟨rfl, .inr ⟨V.heap.size, 0, rfl, by simp, fun j hj => by
    have h := heap_alloc_new V (.cells #[.int .i64 a, .int .i64 b, .int .i64 c] 2)
    match j, hj with
    | 0, _ => unfold World.cell?; rw [h]; rfl
    | 1, _ => unfold World.cell?; rw [h]; rfl
    | 2, _ => unfold World.cell?; rw [h]; rfl⟩⟩
theorem iatK4 (V : World) (a b c d : Int) : IAt (V.alloc (.cells #[.int .i64 a, .int .i64 b, .int .i64 c, .int .i64 d] 2)) (some ⟨V.heap.size, 0, none⟩) 4 [a, b, c, d] :=
  ⟨rfl, .inr ⟨V.heap.size, 0, rfl, by simp, fun j hj => by
    have h := heap_alloc_new V (.cells #[.int .i64 a, .int .i64 b, .int .i64 c, .int .i64 d] 2)
    match j, hj with
    | 0, _ => unfold World.cell?; rw [h]; rfl
    | 1, _ => unfold World.cell?; rw [h]; rfl
    | 2, _ => unfold World.cell?; rw [h]; rfl
    | 3, _ => unfold World.cell?; rw [h]; rfl⟩⟩
/-- What is told of a rule that is drawn right: one to three small keys. -/
def KR (l : List Int) (x y : Int) : Prop := (1 ≤ l.length ∧ l.length ≤ 3) ∧ (∀ k ∈ l, 1 ≤ k ∧ k ≤ 40) ∧ (1 ≤ x ∧ x ≤ 3) ∧ 0 ≤ y ∧ y ≤ 9
/-- Of one that is bent. -/
def KRB (l : List Int) (x y : Int) : Prop := l.length ≤ 4 ∧ (∀ k ∈ l, 0 ≤ k ∧ k ≤ 1000) ∧ (0 ≤ x ∧ x ≤ 4) ∧ -1 ≤ y ∧ y ≤ 1000
theorem last_at {w v V : World} {SB : Nat} {ca : Option Addr} {cn cc t LB : Nat} {g vc : Nat} {l : List Int} {x y s : Int} (H : Dk w v V SB ca cn cc t LB (some ⟨g, 0, none⟩) vc l x y) (h1 : 1 ≤ l.length) (hs : s = l.getD (l.length - 1) 0) : V.cell? ⟨g, l.length - 1, none⟩ = some (.int .i64 s) := by
  have := H.row.cellAt (l.length - 1) (by omega)
  rw [this, hs]
  simp [ints, List.getD, List.getElem?_eq_getElem (show l.length - 1 < l.length by omega)]

/-- What holds in the midst of a key's drawing, whatever has been done of it. -/
structure R5 (w v : World) (SB : Nat) (ca : Option Addr) (cn cc t0 LB g vc : Nat) (l : List Int) (s : Int) (n : Nat) (V : World) (b0 b1 b2 b3 b4 b5 b6 b7 b8 b9 b10 b11 b12 b13 b14 b15 b16 b17 : Bool) (x16 x17 x18 x19 x20 x21 x22 x23 x24 x25 x26 x27 x28 x29 x30 x31 x32 : Value) : Prop where
  len : l.length = n + 1
  m0 : b14 = false → Dk w v V SB ca cn cc (t0 + b12.toNat) LB (some ⟨g, 0, none⟩) vc l 0 0
  m1 : b14 = true → b15 = false → ∃ (U : World) (k : Int), V = U.alloc (.cells #[.int .i64 k] 2) ∧ Dk w v U SB ca cn cc (t0 + 1) LB (some ⟨g, 0, none⟩) vc l 0 0 ∧ x30 = .slice (some ⟨U.heap.size, 0, none⟩) 1 1 ∧ 1 ≤ k ∧ k ≤ s + 2
  m2 : b15 = true → b17 = false → ∃ (g7 cap : Nat) (k : Int), x31 = .slice (some ⟨g7, 0, none⟩) (n + 2) cap ∧ V.cell? ⟨LB, 0, none⟩ = some (.slice (some ⟨g, 0, none⟩) (n + 1) vc) ∧ V.frozen? ⟨LB, 0, none⟩ = false ∧ Dk w v (V.setCell ⟨LB, 0, none⟩ (.slice (some ⟨g7, 0, none⟩) (n + 2) cap)) SB ca cn cc (t0 + 1) LB (some ⟨g7, 0, none⟩) cap (l ++ [k]) 0 0 ∧ 1 ≤ k ∧ k ≤ s + 2
  m3 : b17 = true → ∃ (g7 cap : Nat) (k : Int), Dk w v V SB ca cn cc (t0 + 1) LB (some ⟨g7, 0, none⟩) cap (l ++ [k]) 0 0 ∧ 1 ≤ k ∧ k ≤ s + 2
  f0 : b0 = true → x16 = .pointer (some ⟨LB, 0, none⟩)
  f1 : b1 = true → x17 = .slice (some ⟨g, 0, none⟩) (n + 1) vc
  f2 : b2 = true → x18 = .pointer (some ⟨LB, 0, none⟩)
  f3 : b3 = true → x19 = .slice (some ⟨g, 0, none⟩) (n + 1) vc
  f4 : b4 = true → x20 = .pointer (some ⟨LB, 0, none⟩)
  f5 : b5 = true → x21 = .slice (some ⟨g, 0, none⟩) (n + 1) vc
  f6 : b6 = true → x22 = .int .i64 ((n : Int) + 1)
  f7 : b7 = true → x23 = .int .i64 (n : Int)
  f8 : b8 = true → x24 = .pointer (some ⟨g, n, none⟩)
  f9 : b9 = true → x25 = .int .i64 s
  f10 : b10 = true → x26 = .int .i64 (s + 1)
  f11 : b11 = true → x27 = .pointer (some ⟨SB, 0, none⟩)
  f16 : b16 = true → x32 = .pointer (some ⟨LB, 0, none⟩)
  f12 : b12 = true → ∃ r : Int, x28 = .int .i64 r ∧ 0 ≤ r ∧ r < 2
  f13 : b13 = true → ∃ k : Int, x29 = .int .i64 k ∧ 1 ≤ k ∧ k ≤ s + 2
  o13 : b13 = true → b10 = true ∧ b12 = true
  o10 : b10 = true → b9 = true
  o9 : b9 = true → b8 = true
  o8 : b8 = true → b3 = true ∧ b7 = true
  o7 : b7 = true → b6 = true
  o6 : b6 = true → b5 = true
  o14 : b14 = true → b13 = true
  o15 : b15 = true → b14 = true ∧ b1 = true
  o17 : b17 = true → b15 = true

set_option maxRecDepth 20000 in
set_option maxHeartbeats 8000000 in
theorem l2Draw_any (SB cn cc t : Nat) (ca : Option Addr) (l0 : List Int) (w v : World) (ht : t ≤ 900) (hcn : cn ≤ 1048577) (hB : BAt w ca cn l0) (h : Src w v SB ca cn cc t) :
    Calls Tryz.prog 110 #[.pointer (some ⟨SB, 0, none⟩)] v fun e v' => OutDk w v SB ca cn cc (t + 7) e v' KR := by
  have HBA : Hid (BAt w ca cn l0) := hB
  have hlt := h.lt
  have h1 := l1Next_any SB cn cc t ca l0 3 w (v.alloc (.cells #[.slice none 0 0, .int .i64 0, .int .i64 0] 71)) (by omega) (by omega) hcn hB (h.step (below_box _))
  have HC1 : Hid (Chg v (v.alloc (.cells #[.slice none 0 0, .int .i64 0, .int .i64 0] 71)) SB (SB + 1)) := Chg.of_below (below_box _) _ _
  have HR1 : Hid ((v.alloc (.cells #[.slice none 0 0, .int .i64 0, .int .i64 0] 71)).heap[v.heap.size]? = some (.cells #[.slice none 0 0, .int .i64 0, .int .i64 0] 71 (0, 0))) := heap_alloc_new _ _
  clear hB h
  go_enter Tryz.func110, Tryz.ntmps110
  go_wp2_with (first
    | (go_at_call 16; have hq := h1; clear h1; (with_reducible refine hq.mono ?_); clear hq; rintro e v2 ⟨r1, rfl, ⟨a1, b1⟩, hS2, hc2⟩; have b1' : r1 < 3 := b1 (by omega); clear b1; have hw1 := IntWalk.i64_in (1 + r1) (by omega); have HC2 : Hid (Chg v v2 SB (SB + 1)) := HC1.out.trans hc2; have HR2 : Hid (v2.heap[v.heap.size]? = some (.cells #[.slice none 0 0, .int .i64 0, .int .i64 0] 71 (0, 0))) := hc2.keep1 HR1.out (by omega); have HD2 : Hid (Dk w v ((v2.alloc (.cells #[.int .i64 (1 + r1)] 2)).alloc (.cells #[.slice (some ⟨v2.heap.size, 0, none⟩) 1 1, .int .i64 0, .int .i64 0] 71)) SB ca cn cc (t + 1) (v2.heap.size + 1) (some ⟨v2.heap.size, 0, none⟩) 1 [1 + r1] 0 0) := Dk.start hS2 HC2.out HR2.out hlt (1 + r1); have h2 := l1Next_any SB cn cc (t + 1) ca l0 3 w ((v2.alloc (.cells #[.int .i64 (1 + r1)] 2)).alloc (.cells #[.slice (some ⟨v2.heap.size, 0, none⟩) 1 1, .int .i64 0, .int .i64 0] 71)) (by omega) (by omega) hcn HBA.out HD2.out.src; clear hS2 hc2)
    | (go_at_call 16; have hq := h2; clear h2; (with_reducible refine hq.mono ?_); clear hq; rintro e v3 ⟨r2, rfl, ⟨a2, b2⟩, hS3, hc3⟩; have b2' : r2 < 3 := b2 (by omega); clear b2; have HD3 : Hid (Dk w v v3 SB ca cn cc (t + 1 + 1) (v2.heap.size + 1) (some ⟨v2.heap.size, 0, none⟩) 1 [1 + r1] 0 0) := HD2.out.draw hS3 hc3; clear hS3 hc3))
  obtain ⟨k2, rfl⟩ := Int.eq_ofNat_of_zero_le a2
  clear HR1 HC1 HC2 HR2 HD2
  go_loopw [4] (fun i wr => ∃ k : Nat, k ≤ 2 ∧ i = .int .i64 k ∧ Hid (∃ (t' g vc : Nat) (l : List Int), Dk w v wr SB ca cn cc t' (v2.heap.size + 1) (some ⟨g, 0, none⟩) vc l 0 0 ∧ 1 ≤ l.length ∧ (∀ q ∈ l, 1 ≤ q ∧ q ≤ 4 * l.length) ∧ l.length + k ≤ 3 ∧ t' + k ≤ t + 4)) (fun i _ => (intOf i).toNat)
  case atStart => exact ⟨k2, by omega, rfl, _, _, _, _, HD3.out, by simp, (fun q hq => by simp at hq; subst hq; simp; omega), by simp; omega, by omega⟩
  case round =>
    obtain ⟨k, hk, rfl, HI⟩ := hrel
    obtain ⟨t', g, vc, l, hD, hl1, hlk, hl3, htk⟩ := HI.out
    have HD : Hid (Dk w v wr SB ca cn cc t' (v2.heap.size + 1) (some ⟨g, 0, none⟩) vc l 0 0) := hD
    have HLK : Hid (∀ q ∈ l, 1 ≤ q ∧ q ≤ 4 * l.length) := hlk
    clear hD hlk HI
    by_cases hk0 : 0 < k
    · obtain ⟨k', rfl⟩ : ∃ k', k = k' + 1 := ⟨k - 1, by omega⟩
      have hki : (0 : Int) < ((k' + 1 : Nat) : Int) := by omega
      obtain ⟨s, hs⟩ : ∃ s, s = l.getD (l.length - 1) 0 := ⟨_, rfl⟩
      have hsm : s ∈ l := by rw [hs]; exact getD_mem (by omega)
      obtain ⟨s0, s1⟩ := HLK.out s hsm
      have HSM : Hid (s = l.getD (l.length - 1) 0) := hs
      clear hs hsm
      obtain ⟨n, hn⟩ : ∃ n, n + 1 = l.length := ⟨l.length - 1, by omega⟩
      have HNL : Hid (n + 1 = l.length) := hn
      have HS : s = l.getD n 0 := by rw [HSM.out]; congr 1; omega
      have HB := HBA.out
      have hn2 : n ≤ 2 := by omega
      have hLB : v2.heap.size + 1 = v2.heap.size + 1 := rfl
      obtain ⟨LB, hLBe⟩ : ∃ z, z = v2.heap.size + 1 := ⟨_, rfl⟩
      clear hLB
      have HDb : Hid (Dk w v wr SB ca cn cc t' LB (some ⟨g, 0, none⟩) vc l 0 0) := by rw [hLBe]; exact HD.out
      obtain ⟨t0, ht0⟩ : ∃ z, z = t' := ⟨_, rfl⟩
      rw [← ht0] at HDb htk
      have HSn : Hid (s = l.getD n 0) := HS
      have hs4 : s ≤ 4 * (n + 1) := by omega
      have HL1 : Hid (l.length = n + 1) := hn.symm
      clear hn HSM HS HD HNL hl1
      go_wp2
      rw [← hLBe]
      have HLB : Hid (LB = v2.heap.size + 1) := hLBe
      clear hLBe
      refine wp_region_any (by kernel_rfl) ?_
      change wpAny _ _ _ _ _ _ _ (World.drew _)
      refine wpAny_inv (fun L a V => ∃ (b0 b1 b2 b3 b4 b5 b6 b7 b8 b9 b10 b11 b12 b13 b14 b15 b16 b17 : Bool) (x16 x17 x18 x19 x20 x21 x22 x23 x24 x25 x26 x27 x28 x29 x30 x31 x32 : Value), L = #[b0, b1, b2, b3, b4, b5, b6, b7, b8, b9, b10, b11, b12, b13, b14, b15, b16, b17] ∧ a = { tmps := #[.pointer (some ⟨SB, 0, none⟩), undef, .pointer (some ⟨v.heap.size, 0, none⟩), .pointer (some ⟨LB, 0, none⟩), .int .i64 ((k' : Int) + 1), .pointer (some ⟨SB, 0, none⟩), .int .i64 r1, .int .i64 (1 + r1), .slice (some ⟨v2.heap.size, 0, none⟩) 1 1, .agg #[.slice (some ⟨v2.heap.size, 0, none⟩) 1 1, .int .i64 0, .int .i64 0], .pointer (some ⟨SB, 0, none⟩), .int .i64 k2, .int .i64 ((k' : Int) + 1), .bool true, u14, u15, x16, x17, x18, x19, x20, x21, x22, x23, x24, x25, x26, x27, x28, x29, x30, x31, x32, undef, undef, undef, undef, undef, undef, undef, undef, undef, undef, undef, undef, undef, undef], defers := [] } ∧ R5 w v SB ca cn cc t0 LB g vc l s n V b0 b1 b2 b3 b4 b5 b6 b7 b8 b9 b10 b11 b12 b13 b14 b15 b16 b17 x16 x17 x18 x19 x20 x21 x22 x23 x24 x25 x26 x27 x28 x29 x30 x31 x32) ?step ?done _ _ _ _ (by simp) ?start
      case start =>
        refine ⟨false, false, false, false, false, false, false, false, false, false, false, false, false, false, false, false, false, false, _, _, _, _, _, _, _, _, _, _, _, _, _, _, _, _, _, rfl, rfl, ?_⟩
        have hd : Below wr.heap.size wr wr.drew := (Below.refl _ _).drew
        exact { len := HL1.out, m0 := fun _ => HDb.out.step hd, m1 := nofun, m2 := nofun, m3 := nofun, f0 := nofun, f1 := nofun, f2 := nofun, f3 := nofun, f4 := nofun, f5 := nofun, f6 := nofun, f7 := nofun, f8 := nofun, f9 := nofun, f10 := nofun, f11 := nofun, f16 := nofun, f12 := nofun, f13 := nofun, o13 := nofun, o10 := nofun, o9 := nofun, o8 := nofun, o7 := nofun, o6 := nofun, o14 := nofun, o15 := nofun, o17 := nofun }
      case done =>
        rintro L a V ⟨b0, b1, b2, b3, b4, b5, b6, b7, b8, b9, b10, b11, b12, b13, b14, b15, b16, b17, x16, x17, x18, x19, x20, x21, x22, x23, x24, x25, x26, x27, x28, x29, x30, x31, x32, rfl, rfl, H⟩ hr
        have hall := ready_all (by kernel_rfl) hr
        obtain rfl : b17 = true := hall 17 (by decide)
        obtain ⟨g7, cap, k7, hD7, k0, k1⟩ := H.m3 rfl
        have HD7 : Hid (Dk w v V SB ca cn cc (t0 + 1) LB (some ⟨g7, 0, none⟩) cap (l ++ [k7]) 0 0) := hD7
        clear hD7 H hall hr
        obtain rfl : LB = v2.heap.size + 1 := HLB.out
        go_wp2
        go_roundw
        case rel => exact ⟨k', by omega, by go_num, _, _, _, _, HD7.out, by simp, (fun q hq => by rw [List.mem_append] at hq; simp only [List.length_append, List.length_cons, List.length_nil]; have := HL1.out; rcases hq with hq | hq; (have := HLK.out q hq; omega); (simp at hq; omega)), by simp; have := HL1.out; omega, by omega⟩
        case measure => simp [intOf]; try omega
      case step =>
        rintro L a V i ⟨b0, b1, b2, b3, b4, b5, b6, b7, b8, b9, b10, b11, b12, b13, b14, b15, b16, b17, x16, x17, x18, x19, x20, x21, x22, x23, x24, x25, x26, x27, x28, x29, x30, x31, x32, rfl, rfl, H⟩ hi
        have hlt : i < 18 := ready_lt hi
        obtain rfl | rfl | rfl | rfl | rfl | rfl | rfl | rfl | rfl | rfl | rfl | rfl | rfl | rfl | rfl | rfl | rfl | rfl : i = 0 ∨ i = 1 ∨ i = 2 ∨ i = 3 ∨ i = 4 ∨ i = 5 ∨ i = 6 ∨ i = 7 ∨ i = 8 ∨ i = 9 ∨ i = 10 ∨ i = 11 ∨ i = 12 ∨ i = 13 ∨ i = 14 ∨ i = 15 ∨ i = 16 ∨ i = 17 := by omega
        · obtain rfl : b0 = false := ready_new hi
          refine wpOp_run (o := _) rfl (fun K hK => ?_)
          go_simp
          refine hK _ _ ?_
          exact ⟨_, _, _, _, _, _, _, _, _, _, _, _, _, _, _, _, _, _, _, _, _, _, _, _, _, _, _, _, _, _, _, _, _, _, _, rfl, rfl, { H with f0 := fun _ => rfl }⟩
        · obtain rfl : b1 = false := ready_new hi
          obtain rfl : b0 = true := ready_dep (d := 0) hi (by kernel_rfl)
          obtain rfl : b15 = false := by cases h : b15 with | false => rfl | true => exact absurd (H.o15 h).2 (by decide)
          obtain rfl := H.f0 rfl
          have hc : V.cell? ⟨LB, 0, none⟩ = some (.slice (some ⟨g, 0, none⟩) (n + 1) vc) := by
            cases h14 : b14 with
            | false => exact H.len ▸ (H.m0 h14).cells.1
            | true =>
              obtain ⟨U, k, rfl, hD, _⟩ := H.m1 h14 rfl
              exact H.len ▸ (hD.step (below_box _)).cells.1
          refine wpOp_run (o := _) rfl (fun K hK => ?_)
          go_simp
          refine hK _ _ ?_
          exact ⟨_, _, _, _, _, _, _, _, _, _, _, _, _, _, _, _, _, _, _, _, _, _, _, _, _, _, _, _, _, _, _, _, _, _, _, rfl, rfl, { H with f1 := fun _ => rfl, o15 := fun h => (by cases h) }⟩
        · obtain rfl : b2 = false := ready_new hi
          refine wpOp_run (o := _) rfl (fun K hK => ?_)
          go_simp
          refine hK _ _ ?_
          exact ⟨_, _, _, _, _, _, _, _, _, _, _, _, _, _, _, _, _, _, _, _, _, _, _, _, _, _, _, _, _, _, _, _, _, _, _, rfl, rfl, { H with f2 := fun _ => rfl }⟩
        · obtain rfl : b3 = false := ready_new hi
          obtain rfl : b2 = true := ready_dep (d := 2) hi (by kernel_rfl)
          obtain rfl : b14 = false := by cases h : b14 with | false => rfl | true => exact absurd (H.o8 (H.o9 (H.o10 (H.o13 (H.o14 h)).1))).1 (by decide)
          obtain rfl := H.f2 rfl
          have hc : V.cell? ⟨LB, 0, none⟩ = some (.slice (some ⟨g, 0, none⟩) (n + 1) vc) := H.len ▸ (H.m0 rfl).cells.1
          refine wpOp_run (o := _) rfl (fun K hK => ?_)
          go_simp
          refine hK _ _ ?_
          exact ⟨_, _, _, _, _, _, _, _, _, _, _, _, _, _, _, _, _, _, _, _, _, _, _, _, _, _, _, _, _, _, _, _, _, _, _, rfl, rfl, { H with f3 := fun _ => rfl, o8 := fun h => (by have := (H.o8 h).1; cases this) }⟩
        · obtain rfl : b4 = false := ready_new hi
          refine wpOp_run (o := _) rfl (fun K hK => ?_)
          go_simp
          refine hK _ _ ?_
          exact ⟨_, _, _, _, _, _, _, _, _, _, _, _, _, _, _, _, _, _, _, _, _, _, _, _, _, _, _, _, _, _, _, _, _, _, _, rfl, rfl, { H with f4 := fun _ => rfl }⟩
        · obtain rfl : b5 = false := ready_new hi
          obtain rfl : b4 = true := ready_dep (d := 4) hi (by kernel_rfl)
          obtain rfl : b14 = false := by cases h : b14 with | false => rfl | true => exact absurd (H.o6 (H.o7 (H.o8 (H.o9 (H.o10 (H.o13 (H.o14 h)).1))).2)) (by decide)
          obtain rfl := H.f4 rfl
          have hc : V.cell? ⟨LB, 0, none⟩ = some (.slice (some ⟨g, 0, none⟩) (n + 1) vc) := H.len ▸ (H.m0 rfl).cells.1
          refine wpOp_run (o := _) rfl (fun K hK => ?_)
          go_simp
          refine hK _ _ ?_
          exact ⟨_, _, _, _, _, _, _, _, _, _, _, _, _, _, _, _, _, _, _, _, _, _, _, _, _, _, _, _, _, _, _, _, _, _, _, rfl, rfl, { H with f5 := fun _ => rfl, o6 := fun h => (by have := H.o6 h; cases this) }⟩
        · obtain rfl : b6 = false := ready_new hi
          obtain rfl : b5 = true := ready_dep (d := 5) hi (by kernel_rfl)
          obtain rfl := H.f5 rfl
          refine wpOp_run (o := _) rfl (fun K hK => ?_)
          go_simp
          refine hK _ _ ?_
          exact ⟨_, _, _, _, _, _, _, _, _, _, _, _, _, _, _, _, _, _, _, _, _, _, _, _, _, _, _, _, _, _, _, _, _, _, _, rfl, rfl, { H with f6 := fun _ => rfl, o6 := fun _ => rfl, o7 := fun h => (by have := H.o7 h; cases this) }⟩
        · obtain rfl : b7 = false := ready_new hi
          obtain rfl : b6 = true := ready_dep (d := 6) hi (by kernel_rfl)
          obtain rfl := H.f6 rfl
          have wn : IntKind.i64.wrap ((n : Nat) : Int) = (n : Int) := IntWalk.i64_in _ (by omega)
          refine wpOp_run (o := _) rfl (fun K hK => ?_)
          go_simp
          refine hK _ _ ?_
          exact ⟨_, _, _, _, _, _, _, _, _, _, _, _, _, _, _, _, _, _, _, _, _, _, _, _, _, _, _, _, _, _, _, _, _, _, _, rfl, rfl, { H with f7 := fun _ => rfl, o7 := fun _ => rfl, o8 := fun h => (by have := (H.o8 h).2; cases this) }⟩
        · obtain rfl : b8 = false := ready_new hi
          obtain rfl : b3 = true := ready_dep (d := 3) hi (by kernel_rfl)
          obtain rfl : b7 = true := ready_dep (d := 7) hi (by kernel_rfl)
          obtain rfl := H.f3 rfl
          obtain rfl := H.f7 rfl
          have n0 : (0 : Int) ≤ (n : Int) := by omega
          have n1 : (n : Int) < (n : Int) + 1 := by omega
          refine wpOp_run (o := _) rfl (fun K hK => ?_)
          go_simp
          refine hK _ _ ?_
          exact ⟨_, _, _, _, _, _, _, _, _, _, _, _, _, _, _, _, _, _, _, _, _, _, _, _, _, _, _, _, _, _, _, _, _, _, _, rfl, rfl, { H with f8 := fun _ => rfl, o8 := fun _ => ⟨rfl, rfl⟩, o9 := fun h => (by have := H.o9 h; cases this) }⟩
        · obtain rfl : b9 = false := ready_new hi
          obtain rfl : b8 = true := ready_dep (d := 8) hi (by kernel_rfl)
          obtain rfl : b14 = false := by cases h : b14 with | false => rfl | true => exact absurd (H.o10 (H.o13 (H.o14 h)).1) (by decide)
          obtain rfl := H.f8 rfl
          have hc : V.cell? ⟨g, n, none⟩ = some (.int .i64 s) := by
            have := last_at (H.m0 rfl) (by rw [H.len]; omega) (s := s) (by rw [H.len]; exact HSn.out)
            rwa [H.len] at this
          refine wpOp_run (o := _) rfl (fun K hK => ?_)
          go_simp
          refine hK _ _ ?_
          exact ⟨_, _, _, _, _, _, _, _, _, _, _, _, _, _, _, _, _, _, _, _, _, _, _, _, _, _, _, _, _, _, _, _, _, _, _, rfl, rfl, { H with f9 := fun _ => rfl, o9 := fun _ => rfl, o10 := fun h => (by have := H.o10 h; cases this) }⟩
        · obtain rfl : b10 = false := ready_new hi
          obtain rfl : b9 = true := ready_dep (d := 9) hi (by kernel_rfl)
          obtain rfl := H.f9 rfl
          have w1 : IntKind.i64.wrap (s + 1) = s + 1 := IntWalk.i64_in _ (by omega)
          refine wpOp_run (o := _) rfl (fun K hK => ?_)
          go_simp
          refine hK _ _ ?_
          exact ⟨_, _, _, _, _, _, _, _, _, _, _, _, _, _, _, _, _, _, _, _, _, _, _, _, _, _, _, _, _, _, _, _, _, _, _, rfl, rfl, { H with f10 := fun _ => rfl, o10 := fun _ => rfl, o13 := fun h => (by have := (H.o13 h).1; cases this) }⟩
        · obtain rfl : b11 = false := ready_new hi
          refine wpOp_run (o := _) rfl (fun K hK => ?_)
          go_simp
          refine hK _ _ ?_
          exact ⟨_, _, _, _, _, _, _, _, _, _, _, _, _, _, _, _, _, _, _, _, _, _, _, _, _, _, _, _, _, _, _, _, _, _, _, rfl, rfl, { H with f11 := fun _ => rfl }⟩
        · obtain rfl : b12 = false := ready_new hi
          obtain rfl : b11 = true := ready_dep (d := 11) hi (by kernel_rfl)
          obtain rfl : b14 = false := by cases h : b14 with | false => rfl | true => exact absurd (H.o13 (H.o14 h)).2 (by decide)
          obtain rfl := H.f11 rfl
          have hN := l1Next_any SB cn cc (t0 + 0) ca l0 2 w V (by omega) (by omega) hcn HB (H.m0 rfl).src
          refine wpOp_run (o := _) rfl (fun K hK => ?_)
          go_simp
          go_at_call 16
          refine hN.mono ?_
          rintro e v5 ⟨r, rfl, ⟨r0, r1⟩, hS, hc⟩
          have r2 : r < 2 := r1 (by omega)
          have hD := (H.m0 rfl).draw hS hc
          go_simp
          refine hK _ _ ?_
          exact ⟨_, _, _, _, _, _, _, _, _, _, _, _, _, _, _, _, _, _, _, _, _, _, _, _, _, _, _, _, _, _, _, _, _, _, _, rfl, rfl, { H with m0 := fun _ => hD, m1 := fun h => (by cases h), m2 := fun h => (by have := (H.o15 h).1; cases this), m3 := fun h => (by have := (H.o15 (H.o17 h)).1; cases this), f12 := fun _ => ⟨r, rfl, r0, r2⟩, o13 := fun h => (by have := (H.o13 h).2; cases this) }⟩
        · obtain rfl : b13 = false := ready_new hi
          obtain rfl : b10 = true := ready_dep (d := 10) hi (by kernel_rfl)
          obtain rfl : b12 = true := ready_dep (d := 12) hi (by kernel_rfl)
          obtain rfl := H.f10 rfl
          obtain ⟨r, e28, r0, r1⟩ := H.f12 rfl
          subst e28
          have w2 : IntKind.i64.wrap (s + 1 + r) = s + 1 + r := IntWalk.i64_in _ (by omega)
          refine wpOp_run (o := _) rfl (fun K hK => ?_)
          go_simp
          refine hK _ _ ?_
          exact ⟨_, _, _, _, _, _, _, _, _, _, _, _, _, _, _, _, _, _, _, _, _, _, _, _, _, _, _, _, _, _, _, _, _, _, _, rfl, rfl, { H with f13 := fun _ => ⟨s + 1 + r, rfl, by omega, by omega⟩, o13 := fun _ => ⟨rfl, rfl⟩, o14 := fun h => (by have := H.o14 h; cases this) }⟩
        · obtain rfl : b14 = false := ready_new hi
          obtain rfl : b13 = true := ready_dep (d := 13) hi (by kernel_rfl)
          obtain rfl : b12 = true := (H.o13 rfl).2
          obtain rfl : b15 = false := by cases h : b15 with | false => rfl | true => exact absurd (H.o15 h).1 (by decide)
          obtain rfl : b17 = false := by cases h : b17 with | false => rfl | true => exact absurd (H.o17 h) (by decide)
          obtain ⟨k, e29, k0, k1⟩ := H.f13 rfl
          subst e29
          have hD := H.m0 rfl
          refine wpOp_run (o := _) rfl (fun K hK => ?_)
          go_simp
          refine hK _ _ ?_
          exact ⟨_, _, _, _, _, _, _, _, _, _, _, _, _, _, _, _, _, _, _, _, _, _, _, _, _, _, _, _, _, _, _, _, _, _, _, rfl, rfl, { H with m0 := fun h => (by cases h), m1 := fun _ _ => ⟨V, k, rfl, hD, rfl, k0, k1⟩, m2 := fun h => (by cases h), m3 := fun h => (by cases h), o14 := fun _ => rfl, o15 := fun h => (by cases h) }⟩
        · obtain rfl : b15 = false := ready_new hi
          obtain rfl : b1 = true := ready_dep (d := 1) hi (by kernel_rfl)
          obtain rfl : b14 = true := ready_dep (d := 14) hi (by kernel_rfl)
          obtain rfl : b17 = false := by cases h : b17 with | false => rfl | true => exact absurd (H.o17 h) (by decide)
          obtain rfl := H.f1 rfl
          obtain ⟨U, k, rfl, hD, e30, k0, k1⟩ := H.m1 rfl rfl
          subst e30
          obtain ⟨g7, cap, w7, hrun, ⟨c7, d7⟩, HD7⟩ := hD.more (k := k) (by rw [H.len]; omega)
          rw [H.len] at hrun c7 HD7
          refine wpOp_run (o := _) rfl (fun K hK => ?_)
          refine step_append_run (by rfl) _ _ _ (by rfl) (by rfl) (by rfl) hrun ?_
          refine hK _ _ ?_
          exact ⟨_, _, _, _, _, _, _, _, _, _, _, _, _, _, _, _, _, _, _, _, _, _, _, _, _, _, _, _, _, _, _, _, _, _, _, rfl, rfl, { H with m0 := fun h => (by have := h; cases this), m1 := fun _ h => (by cases h), m2 := fun _ _ => ⟨g7, cap, k, rfl, c7, d7, HD7.out, k0, k1⟩, m3 := fun h => (by cases h), o15 := fun _ => ⟨rfl, rfl⟩, o17 := fun h => (by cases h) }⟩
        · obtain rfl : b16 = false := ready_new hi
          refine wpOp_run (o := _) rfl (fun K hK => ?_)
          go_simp
          refine hK _ _ ?_
          exact ⟨_, _, _, _, _, _, _, _, _, _, _, _, _, _, _, _, _, _, _, _, _, _, _, _, _, _, _, _, _, _, _, _, _, _, _, rfl, rfl, { H with f16 := fun _ => rfl }⟩
        · obtain rfl : b17 = false := ready_new hi
          obtain rfl : b15 = true := ready_dep (d := 15) hi (by kernel_rfl)
          obtain rfl : b16 = true := ready_dep (d := 16) hi (by kernel_rfl)
          obtain rfl : b14 = true := (H.o15 rfl).1
          obtain rfl := H.f16 rfl
          obtain ⟨g7, cap, k, e31, c7, d7, hD, k0, k1⟩ := H.m2 rfl rfl
          subst e31
          refine wpOp_run (o := _) rfl (fun K hK => ?_)
          go_simp
          refine hK _ _ ?_
          exact ⟨_, _, _, _, _, _, _, _, _, _, _, _, _, _, _, _, _, _, _, _, _, _, _, _, _, _, _, _, _, _, _, _, _, _, _, rfl, rfl, { H with m0 := fun h => (by cases h), m1 := fun _ h => (by cases h), m2 := fun _ h => (by cases h), m3 := fun _ => ⟨g7, cap, k, hD, k0, k1⟩, o17 := fun _ => rfl }⟩
    · have hki : ¬ (0 : Int) < (k : Int) := by omega
      obtain rfl : k = 0 := by omega
      have hN := l1Next_any SB cn cc t' ca l0 l.length w wr (by omega) (by omega) hcn HBA.out HD.out.src
      obtain ⟨n, hn⟩ : ∃ n, n = l.length := ⟨_, rfl⟩
      have HNL : Hid (n = l.length) := hn
      have c0 := HD.out.cells.1
      rw [← hn] at hN c0 hl1 hl3
      clear hn
      go_wp2_with (first
        | (go_at_call 16; have hq := hN; clear hN; (with_reducible refine hq.mono ?_); clear hq; rintro e v4 ⟨r4, rfl, ⟨a4, b4⟩, hS4, hc4⟩; have b4' : r4 < n := b4 (by omega); clear b4; have hw4 := IntWalk.i64_in (1 + r4) (by omega); have HD4 : Hid (Dk w v v4 SB ca cn cc (t' + 1) (v2.heap.size + 1) (some ⟨g, 0, none⟩) vc l 0 0) := HD.out.draw hS4 hc4; have HD5 : Hid (Dk w v (v4.setCell ⟨v2.heap.size + 1, 1, none⟩ (.int .i64 (1 + r4))) SB ca cn cc (t' + 1) (v2.heap.size + 1) (some ⟨g, 0, none⟩) vc l (1 + r4) 0) := HD4.out.setk (i := 1) rfl; have e1 := HD4.out.cells.2.1; have g1 := HD4.out.fz 1; have hM := l1Next_any SB cn cc (t' + 1) ca l0 9 w (v4.setCell ⟨v2.heap.size + 1, 1, none⟩ (.int .i64 (1 + r4))) (by omega) (by omega) hcn HBA.out HD5.out.src; clear hS4 hc4)
        | (go_at_call 16; have hq := hM; clear hM; (with_reducible refine hq.mono ?_); clear hq; rintro e v5 ⟨r5, rfl, ⟨a5, b5⟩, hS5, hc5⟩; have b5' : r5 < 9 := b5 (by omega); clear b5; have HD6 : Hid (Dk w v v5 SB ca cn cc (t' + 1 + 1) (v2.heap.size + 1) (some ⟨g, 0, none⟩) vc l (1 + r4) 0) := HD5.out.draw hS5 hc5; have hD7 := HD6.out.step (below_box (.cells #[.int .i64 0, .int .i64 0, .int .i64 0, .int .i64 r5] 2)); have HO5 : Hid (SB < v5.heap.size) := HD6.out.src.lt; have hP := l1Pick_any SB cn cc (t' + 1 + 1) 4 4 ca (some ⟨v5.heap.size, 0, none⟩) l0 [0, 0, 0, r5] w (v5.alloc (.cells #[.int .i64 0, .int .i64 0, .int .i64 0, .int .i64 r5] 2)) (by omega) (by omega) (by omega) hcn HBA.out hD7.src (iatK4 v5 0 0 0 r5) (fun b off e => (by cases e; have := HO5.out; omega)); clear hS5 hc5)
        | (go_at_call 15; have hq := hP; clear hP; (with_reducible refine hq.mono ?_); clear hq; rintro e v6 ⟨z, rfl, hz, hS6, hc6⟩; have HZ : Hid (0 ≤ z ∧ z ≤ 9) := (by simp at hz; rcases hz with rfl | rfl <;> first | (exact ⟨by omega, by omega⟩)); have HD8 : Hid (Dk w v v6 SB ca cn cc (t' + 1 + 1 + 1) (v2.heap.size + 1) (some ⟨g, 0, none⟩) vc l (1 + r4) 0) := hD7.draw hS6 hc6; have e2 := HD8.out.cells.2.2; have g2 := HD8.out.fz 2; have HD9 : Hid (Dk w v (v6.setCell ⟨v2.heap.size + 1, 2, none⟩ (.int .i64 z)) SB ca cn cc (t' + 1 + 1 + 1) (v2.heap.size + 1) (some ⟨g, 0, none⟩) vc l (1 + r4) z) := HD8.out.setk (i := 2) rfl; have x0 := HD9.out.cells.1; have x1 := HD9.out.cells.2.1; have x2 := HD9.out.cells.2.2; rw [← HNL.out] at x0; obtain ⟨y0, y1, y2⟩ := cells3 HD9.out.res; have z0 := Joins.unfrozen_of_block HD9.out.res 0; have z1 := Joins.unfrozen_of_block HD9.out.res 1; have z2 := Joins.unfrozen_of_block HD9.out.res 2; clear hS6 hc6 hz hD7))
      obtain ⟨j0, j1, j2⟩ := three_set HD9.out.res (.slice (some ⟨g, 0, none⟩) n vc) (.int .i64 (1 + r4)) (.int .i64 z)
      have hzz := HZ.out
      have hE := HD9.out.ret (T := t + 7) (K := KR) (by omega) ⟨by rw [← HNL.out]; omega, fun q hq => by have := HLK.out q hq; rw [← HNL.out] at this; omega, by omega, by omega⟩ rfl (.slice (some ⟨g, 0, none⟩) n vc) (.int .i64 (1 + r4)) (.int .i64 z)
      rw [← HNL.out] at hE
      exact bodyPost_ret (v := .agg #[.slice (some ⟨g, 0, none⟩) n vc, .int .i64 (1 + r4), .int .i64 z]) (by simp [results, Tryz.results110, go_sem, j0, j1, j2]) rfl hE

end Go.Proofs.YthjolannlefbcaaGreatDoor

namespace Go.Proofs.YthjolannlefbcaaGreatDoor
open Go.RowKit Go.Maps Go.WideMaps

/-- Coins of one's own, read as coins. -/
theorem COwn.at {w : World} {lo hi n : Nat} {v : Value} {f : Nat → Co} {kv : Nat → Value} (h : COwn w lo hi v n f kv) {cs : List Co} (hn : cs.length = n) (hc : ∀ j, j < n → cs.getD j C0 = f j) (hl : ∀ j, j < n → (f j).l.length ≤ 1048576) :
    ∃ a c, v = .slice a n c ∧ CAt w a n cs := by
  obtain ⟨xs, h1, h2⟩ := h.row
  rcases id h1.2 with ⟨rfl, rfl⟩ | ⟨g, cap, cur, rfl, hbg, hgg, hnc, hcm, _⟩
  · exact ⟨none, 0, rfl, hn, .inl rfl⟩
  · refine ⟨some ⟨g, 0, none⟩, cap, rfl, hn, .inr ⟨g, 0, rfl, (h1.lt g rfl).2, fun j hj => ?_⟩⟩
    have hk := (h.keys j hj).1
    have h5 := hl j hj
    obtain ⟨a0, a1, a2, a3, a4, a5, a6, a7⟩ := h2 j hj
    have hxl := h1.1
    rw [hc j hj]
    have cell : ∀ i, i < 8 → w.cell? ⟨g, 0 + j * 8 + i, none⟩ = xs[j * 8 + i]? := fun i hi => by rw [Nat.zero_add]; exact h1.cellAt (j * 8 + i) (by omega)
    have cell0 : w.cell? ⟨g, 0 + j * 8, none⟩ = xs[j * 8]? := cell 0 (by omega)
    rcases id hk.2 with ⟨e, e2⟩ | ⟨g', cap', cur', e, _⟩
    · refine ⟨none, 0, ⟨cell0.trans a0, (cell 1 (by omega)).trans a1, (cell 2 (by omega)).trans a2, ?_, (cell 4 (by omega)).trans a4, (cell 5 (by omega)).trans a5, (cell 6 (by omega)).trans a6, (cell 7 (by omega)).trans a7⟩, by unfold maxLen; omega, rfl, .inl e2⟩
      rw [cell 3 (by omega), a3, e, e2]
    · refine ⟨some ⟨g', 0, none⟩, cap', ⟨cell0.trans a0, (cell 1 (by omega)).trans a1, (cell 2 (by omega)).trans a2, ?_, (cell 4 (by omega)).trans a4, (cell 5 (by omega)).trans a5, (cell 6 (by omega)).trans a6, (cell 7 (by omega)).trans a7⟩, by unfold maxLen; omega, ?_⟩
      · rw [cell 3 (by omega), a3, e]
      · rw [e] at hk
        exact IAt.owned hk rfl

end Go.Proofs.YthjolannlefbcaaGreatDoor

namespace Go.Proofs.YthjolannlefbcaaGreatDoor
open Go.RowKit Go.Maps Go.WideMaps

theorem rises {pr : Int × Int} {cs : List Co} (h : csR pr cs = 0) : (∀ c ∈ cs, coinR c = 0) ∧ (∀ c ∈ cs, 0 < cmpR (c.p, c.q) pr) ∧ cs.Pairwise (fun a b => 0 < cmpR (b.p, b.q) (a.p, a.q)) := by
  induction cs generalizing pr with
  | nil => exact ⟨fun c hc => (by cases hc), fun c hc => (by cases hc), List.Pairwise.nil⟩
  | cons c t ih =>
    have h0 : coinR c = 0 := by
      by_cases e : coinR c = 0
      · exact e
      · rw [csR_bad rfl e] at h; exact absurd h e
    have h1 : ¬ cmpR (c.p, c.q) pr ≤ 0 := fun e => by rw [csR_form h0 e] at h; cases h
    rw [csR_go h0 h1] at h
    obtain ⟨i1, i2, i3⟩ := ih h
    refine ⟨fun d hd => ?_, fun d hd => ?_, List.Pairwise.cons (fun d hd => i2 d hd) i3⟩
    · rcases List.mem_cons.1 hd with rfl | hd
      · exact h0
      · exact i1 d hd
    · rcases List.mem_cons.1 hd with rfl | hd
      · omega
      · obtain ⟨p1, p2⟩ := pr
        have a := cmpR_pos.1 (i2 d hd)
        have b := cmpR_pos.1 (show 0 < cmpR (c.p, c.q) (p1, p2) by omega)
        exact cmpR_pos.2 (by omega)
theorem coin_more {c : Co} (h : coinR c = 0) : (1 ≤ c.p ∧ c.p ≤ 60) ∧ (0 ≤ c.q ∧ c.q ≤ 3) ∧ 1 ≤ c.l.length ∧ c.l.length ≤ 3 := by
  unfold coinR at h
  by_cases h1 : refB (c.p, c.q) = false ∨ inB c.h 0 999 = false
  · rw [if_pos h1] at h; cases h
  · rw [if_neg h1] at h; unfold outR at h
    have h2 : refB (c.p, c.q) = true := by cases e : refB (c.p, c.q); exact absurd (.inl e) h1; rfl
    by_cases h3 : inB c.v 1 1000000 = false
    · rw [if_pos h3] at h; cases h
    · rw [if_neg h3] at h; unfold ruleR at h
      by_cases h4 : inB c.l.length 1 3 = false
      · rw [if_pos h4] at h; cases h
      · have h5 : inB c.l.length 1 3 = true := by cases e : inB c.l.length 1 3; exact absurd e h4; rfl
        simp [refB, inB] at h2 h5
        omega
theorem coins_rise {cs : List Co} (h : coinsR cs = 0) : cs.length ≤ 40 ∧ (∀ c ∈ cs, coinR c = 0) ∧ cs.Pairwise (fun a b => 0 < cmpR (b.p, b.q) (a.p, a.q)) := by
  unfold coinsR at h
  by_cases e : 40 < cs.length
  · rw [if_pos e] at h; cases h
  · rw [if_neg e] at h; exact ⟨by omega, (rises h).1, (rises h).2.2⟩
theorem find_none {ps : List (Co × Value)} {L0 cs : List Co} {n j : Nat} {o : Co} (hn : cs.length = n) (hlt : j < n) (ho : o = cs.getD j C0) (hp : ps.map (·.1) = L0 ++ cs.take j) (hr : (L0 ++ cs).Pairwise (fun a b => (a.p, a.q) ≠ (b.p, b.q))) : findP ps (o.p, o.q) = none := by
  unfold findP
  rw [List.find?_eq_none]
  intro y hy
  have h1 : y.1 ∈ L0 ++ cs.take j := by rw [← hp]; exact List.mem_map.2 ⟨y, hy, rfl⟩
  have h2 : L0 ++ cs = (L0 ++ cs.take j) ++ cs.drop j := by rw [List.append_assoc, List.take_append_drop]
  rw [h2, List.pairwise_append] at hr
  have h3 := hr.2.2 y.1 h1 o (by rw [next_coin hn hlt ho]; exact List.mem_cons_self ..)
  intro e
  have e2 : refOf y = (o.p, o.q) := by simpa using e
  exact h3 (by simpa [refOf] using e2)
theorem rise_ne {cs : List Co} (h : cs.Pairwise (fun a b => 0 < cmpR (b.p, b.q) (a.p, a.q))) : cs.Pairwise (fun a b => (a.p, a.q) ≠ (b.p, b.q)) := by
  refine h.imp fun {a b} k e => ?_
  have := cmpR_pos.1 k
  simp at e
  omega

/-- What filling a purse comes to. -/
def FillR (w w' : World) (e : Ending) (cs : List Co) : Prop :=
  Below w.heap.size w w' ∧ ((coinsR cs ≠ 0 ∧ e = .returned (.tuple #[.map none, .int .i64 (coinsR cs)])) ∨ (coinsR cs = 0 ∧ ∃ B ps, e = .returned (.tuple #[.map (some B), .int .i64 0]) ∧ Pu w' w.heap.size B ps ∧ ps.map (·.1) = cs))

set_option maxRecDepth 20000 in
set_option maxHeartbeats 2000000 in
/-- All coins of a list are put into a purse that has none of their refs; the list is older memory than the purse. -/
theorem putAll_any (B lo n c : Nat) (a : Option Addr) (cs : List Co) (ps0 : List (Co × Value)) (w v : World) (hn : n ≤ 500) (hl0 : ps0.length ≤ 500) (hC : CAt w a n cs) (hok : ∀ c ∈ cs, coinR c = 0) (hap : (ps0.map (·.1) ++ cs).Pairwise (fun a b => (a.p, a.q) ≠ (b.p, b.q))) (hbv : Below w.heap.size w v) (hB : w.heap.size ≤ B) (hlo : lo ≤ v.heap.size) (hP : Pu v lo B ps0) :
    Calls Tryz.prog 36 #[.map (some B), .slice a n c] v fun e w' => e = .returned (.tuple #[]) ∧ Hid (∃ ps, Pu w' lo B ps ∧ ps.map (·.1) = ps0.map (·.1) ++ cs) ∧ Below w.heap.size w w' ∧ Chg v w' B (B + 1) := by
  have HC : Hid (CAt w a n cs) := hC
  have HN : Hid (cs.length = n) := hC.1
  have HOK : Hid (∀ c ∈ cs, coinR c = 0) := hok
  have HAP : Hid ((ps0.map (·.1) ++ cs).Pairwise (fun a b => (a.p, a.q) ≠ (b.p, b.q))) := hap
  have HPV : Hid (Pu v lo B ps0) := hP
  have HLB := hP.lt
  clear hC hok hap hP
  go_enter Tryz.func36, Tryz.ntmps36
  go_wp2
  go_loopw [8] (fun i wr => ∃ j : Nat, j ≤ n ∧ i = .int .i64 j ∧ Below w.heap.size w wr ∧ Hid (∃ ps, Pu wr lo B ps ∧ ps.map (·.1) = ps0.map (·.1) ++ cs.take j) ∧ Hid (Chg v wr B (B + 1))) (fun i _ => n - (intOf i).toNat)
  case atStart => exact ⟨0, Nat.zero_le _, rfl, hbv, ⟨ps0, HPV.out, by simp⟩, Chg.refl _ _ _⟩
  case round =>
    obtain ⟨j, hj, rfl, hbel, HP, HCH⟩ := hrel
    by_cases hlt : j < n
    · rcases HC.out.2 with h0 | ⟨b, off, e0, l0, d0⟩
      · omega
      subst e0
      obtain ⟨ps, hPu, hps⟩ := HP.out
      obtain ⟨o, ho⟩ : ∃ o, o = cs.getD j C0 := ⟨_, rfl⟩
      obtain ⟨ka, kc, p0, p4, p5⟩ := d0 j hlt
      rw [← ho] at p0 p4 p5
      have hmem : o ∈ cs := by
        have e : cs.getD j C0 = cs[j]'(by rw [HN.out]; exact hlt) := by simp [List.getD, List.getElem?_eq_getElem (show j < cs.length by rw [HN.out]; exact hlt)]
        rw [ho, e]; exact List.getElem_mem _
      obtain ⟨g1, g2, g3, g4⟩ := coin_more (HOK.out o hmem)
      have hfn := find_none HN.out hlt ho hps HAP.out
      have HNX : Hid (cs.take (j + 1) = cs.take j ++ [o]) := by
        have e : cs.getD j C0 = cs[j]'(by rw [HN.out]; exact hlt) := by simp [List.getD, List.getElem?_eq_getElem (show j < cs.length by rw [HN.out]; exact hlt)]
        show _ = _
        rw [List.take_add_one, ho, e, List.getElem?_eq_getElem (by rw [HN.out]; exact hlt)]; rfl
      have hpl : ps.length = ps0.length + j := by
        have := congrArg List.length hps
        rw [List.length_map, List.length_append, List.length_map, List.length_take] at this
        have := HN.out
        omega
      obtain ⟨op, oq, ov, ol, ox, oy, oh, om⟩ := o
      simp only at p0 p4 p5 g1 g2 g3 g4 hfn
      rcases p5.2 with h0 | ⟨kb, ko, ek, hkl, _⟩
      · omega
      subst ek
      obtain ⟨x0, x1, x2, x3, x4, x5, x6, x7⟩ := p0.below hbel l0
      simp only at x0 x1 x2 x3 x4 x5 x6 x7
      have hbx : Below wr.heap.size wr (wr.alloc (.cells #[.int .i64 op, .int .i64 oq, .int .i64 ov, .slice (some ⟨kb, ko, none⟩) ol.length kc, .int .i64 ox, .int .i64 oy, .int .i64 oh, .bool om] 75)) := below_box _
      have hvs := HCH.out.size
      have hput := put_any B lo kb ko kc ps op oq ov ol ox oy oh om (wr.alloc (.cells #[.int .i64 op, .int .i64 oq, .int .i64 ov, .slice (some ⟨kb, ko, none⟩) ol.length kc, .int .i64 ox, .int .i64 oy, .int .i64 oh, .bool om] 75)) (hPu.below hbx) (Nat.le_trans hlo (Nat.le_trans hvs hbx.size)) (by omega) ((p5.below hbel (Nat.le_refl _)).below hbx (Nat.le_refl _)) (WalkArith.wf_i64 (by omega)) (WalkArith.wf_i64 (by omega)) hfn (by omega)
      have HPS : Hid (ps.map (·.1) = ps0.map (·.1) ++ cs.take j) := hps
      have HBX : Hid (Below w.heap.size w (wr.alloc (.cells #[.int .i64 op, .int .i64 oq, .int .i64 ov, .slice (some ⟨kb, ko, none⟩) ol.length kc, .int .i64 ox, .int .i64 oy, .int .i64 oh, .bool om] 75))) := hbel.trans (hbx.mono hbel.size)
      have HCX : Hid (Chg v (wr.alloc (.cells #[.int .i64 op, .int .i64 oq, .int .i64 ov, .slice (some ⟨kb, ko, none⟩) ol.length kc, .int .i64 ox, .int .i64 oy, .int .i64 oh, .bool om] 75)) B (B + 1)) := HCH.out.trans (Chg.of_below hbx _ _)
      clear ho d0 p0 p4 p5 hmem g1 g2 g3 g4 hfn hPu hps hbx
      have hki : (j : Int) < (n : Int) := by omega
      go_wp2_with (first
        | (go_at_call 54; (with_reducible refine hput.mono ?_); clear hput; rintro e w3 ⟨rfl, HPU, hch⟩; have HB3 : Hid (Below w.heap.size w w3) := HBX.out.trans (hch.below (by omega) (by have := HBX.out.size; omega)); have HC3 : Hid (Chg v w3 B (B + 1)) := HCX.out.trans hch; clear hch))
      go_roundw
      case rel =>
        obtain ⟨u, hu⟩ := HPU.out
        exact ⟨j + 1, by omega, by go_num, HB3.out, ⟨_, hu, by rw [List.map_append, HPS.out, HNX.out, List.append_assoc]; rfl⟩, HC3.out⟩
      case measure => simp [intOf]; omega
    · have e1 : cs.take j = cs := List.take_of_length_le (by rw [HN.out]; omega)
      go_wp2
      go_end0
      obtain ⟨ps, h1, h2⟩ := HP.out
      exact ⟨rfl, ⟨ps, h1, by rw [h2, e1]⟩, hbel, HCH.out⟩

set_option maxRecDepth 20000 in
set_option maxHeartbeats 2000000 in
theorem fillPurse_any (n c : Nat) (a : Option Addr) (cs : List Co) (w : World) (hn : n ≤ 1048576) (hk : ∀ j, j < n → (cs.getD j C0).l.length ≤ 1048576) (hC : CAt w a n cs) :
    Calls Tryz.prog 17 #[.slice a n c] w fun e w' => FillR w w' e cs := by
  have hF := iCoinsFault_any n c a cs w hn hk hC
  have HC : Hid (CAt w a n cs) := hC
  have hmm := @run_makeMap Tryz.prog
  obtain ⟨cd, hcd⟩ : ∃ r, r = coinsR cs := ⟨_, rfl⟩
  rw [← hcd] at hF
  have HCD : Hid (coinsR cs = cd) := hcd.symm
  by_cases h0 : cd = 0
  · subst h0
    obtain ⟨h40, hok, hri⟩ := coins_rise hcd.symm
    rw [hC.1] at h40
    have HOK : Hid (∀ c ∈ cs, coinR c = 0) := hok
    have HRI : Hid (cs.Pairwise (fun a b => (a.p, a.q) ≠ (b.p, b.q))) := rise_ne hri
    clear hcd hC hk hok hri
    go_enter Tryz.func17, Tryz.ntmps17
    go_wp2_with (first
      | (go_at_call 12; (with_reducible refine hF.mono ?_); clear hF; rintro e w2 ⟨rfl, hb2⟩; have hs2 := hb2.size; have hpa := putAll_any w2.heap.size w.heap.size n c a cs [] w (w2.alloc (.map #[] 0)) (by omega) (by simp) HC.out HOK.out (by simpa using HRI.out) (hb2.trans ((below_box _).mono hs2)) hs2 (by simp; omega) (Pu.made hs2); clear hb2)
      | (go_at_call 36; (with_reducible refine hpa.mono ?_); clear hpa; rintro e w3 ⟨rfl, HP, hB3, _⟩))
    refine bodyPost_ret (v := .tuple #[.map (some w2.heap.size), .int .i64 0]) (by simp [results, Tryz.results17, go_sem]) rfl ⟨hB3, .inr ⟨HCD.out, ?_⟩⟩
    obtain ⟨ps, h1, h2⟩ := HP.out
    exact ⟨_, ps, rfl, h1, by simpa using h2⟩
  · clear hcd hC hk
    go_enter Tryz.func17, Tryz.ntmps17
    go_wp2_with (first
      | (go_at_call 12; (with_reducible refine hF.mono ?_); clear hF; rintro e w2 ⟨rfl, hb2⟩))
    refine bodyPost_ret (v := .tuple #[.map none, .int .i64 cd]) (by simp [results, Tryz.results17, go_sem]) rfl ⟨hb2, .inl ⟨by rw [HCD.out]; exact h0, by rw [HCD.out]⟩⟩

/-- What CoinAt answers: a code, and the coin alone. -/
def atR (cs : List Co) (r : Int × Int) : Int × List Co := if coinsR cs ≠ 0 then (coinsR cs, []) else match cs.find? (fun c => decide ((c.p, c.q) = r)) with | none => (4, []) | some c => (0, [c])
theorem find_map {ps : List (Co × Value)} {r : Int × Int} : (ps.map (·.1)).find? (fun c => decide ((c.p, c.q) = r)) = (findP ps r).map (·.1) := by
  unfold findP
  induction ps with
  | nil => rfl
  | cons x t ih =>
    simp only [List.map_cons, List.find?_cons]
    by_cases e : refOf x = r
    · have e2 : decide ((x.1.p, x.1.q) = r) = true := decide_eq_true e
      rw [e2, decide_eq_true e]; rfl
    · have e2 : decide ((x.1.p, x.1.q) = r) = false := decide_eq_false e
      rw [e2, decide_eq_false e]; exact ih

/-- What an answer of coins is owed: new memory of its own. -/
def OutCs (w w' : World) (e : Ending) (cd : Int) (cs : List Co) : Prop :=
  ∃ v kv, e = .returned (.agg #[.int .i64 cd, v]) ∧ COwn w' w.heap.size w'.heap.size v cs.length (fun j => cs.getD j C0) kv ∧ Below w.heap.size w w'
theorem COwn.zero {w : World} {lo hi : Nat} (f : Nat → Co) : COwn w lo hi (.slice none 0 0) 0 f (fun _ => .slice none 0 0) :=
  ⟨⟨[], World.ownsRow_nil _ _ _ _, fun j hj => (by omega)⟩, fun b hb => (by cases hb), fun j hj => (by omega), fun i j _ hj => (by omega)⟩
theorem COwn.one {w : World} {lo X : Nat} {x : Co} {u : Value} (hX : w.heap[X]? = some (.cells #[.int .i64 x.p, .int .i64 x.q, .int .i64 x.v, u, .int .i64 x.x, .int .i64 x.y, .int .i64 x.h, .bool x.m] 75 (0, 0))) (hlo : lo ≤ X) (hrow : w.ownsRow lo 2 1 u x.l.length (ints x.l)) :
    COwn w lo w.heap.size (.slice (some ⟨X, 0, none⟩) 1 1) 1 (fun j => [x].getD j C0) (fun _ => u) := by
  refine ⟨⟨[.int .i64 x.p, .int .i64 x.q, .int .i64 x.v, u, .int .i64 x.x, .int .i64 x.y, .int .i64 x.h, .bool x.m], ⟨rfl, .inr ⟨X, 1, #[.int .i64 x.p, .int .i64 x.q, .int .i64 x.v, u, .int .i64 x.x, .int .i64 x.y, .int .i64 x.h, .bool x.m], rfl, hlo, hX, Nat.le_refl _, by unfold maxLen; omega, rfl, rfl⟩⟩, fun j hj => ?_⟩, fun b hb => ?_, fun j hj => ⟨?_, fun b hb => (hrow.lt b hb).2⟩, fun i j hij hj => (by omega)⟩
  · obtain rfl : j = 0 := by omega
    exact ⟨rfl, rfl, rfl, rfl, rfl, rfl, rfl, rfl⟩
  · cases hb
    exact lt_of_block hX
  · obtain rfl : j = 0 := by omega
    exact hrow

end Go.Proofs.YthjolannlefbcaaGreatDoor

namespace Go.Proofs.YthjolannlefbcaaGreatDoor
open Go.RowKit Go.Maps Go.WideMaps

theorem COwn.set2 {w : World} {lo hi b n : Nat} {v : Value} {f : Nat → Co} {kv : Nat → Value} (h : COwn w lo hi v n f kv) (hv : v.ownBlock ≠ some b) (hk : ∀ j, j < n → (kv j).ownBlock ≠ some b) (i : Nat) (u : Value) : COwn (w.setCell ⟨b, i, none⟩ u) lo hi v n f kv := by
  obtain ⟨xs, h1, h2⟩ := h.row
  exact ⟨⟨xs, ownsRow_setCell_other h1 (a := ⟨b, i, none⟩) hv u, h2⟩, h.top, fun j hj => ⟨ownsRow_setCell_other (h.keys j hj).1 (a := ⟨b, i, none⟩) (hk j hj) u, (h.keys j hj).2⟩, h.apart⟩

theorem COwn.lower {w : World} {lo lo' hi hi' n : Nat} {v : Value} {f : Nat → Co} {kv : Nat → Value} (h : COwn w lo hi v n f kv) (hl : lo' ≤ lo) (hh : hi ≤ hi') : COwn w lo' hi' v n f kv := by
  obtain ⟨xs, h1, h2⟩ := h.row
  exact ⟨⟨xs, Joins.ownsRow_le h1 hl, h2⟩, fun b hb => Nat.lt_of_lt_of_le (h.top b hb) hh, fun j hj => ⟨Joins.ownsRow_le (h.keys j hj).1 hl, fun b hb => Nat.lt_of_lt_of_le ((h.keys j hj).2 b hb) hh⟩, h.apart⟩
theorem look_none {w : World} {lo B : Nat} {cs : List Co} {p q : Int} (h : ∃ ps, Pu w lo B ps ∧ ps.map (·.1) = cs) (hl : ∀ ps : List (Co × Value), ps.map (·.1) = cs → cs.find? (fun c => decide ((c.p, c.q) = (p, q))) = (findP ps (p, q)).map (·.1)) (hf : cs.find? (fun c => decide ((c.p, c.q) = (p, q))) = none) (hp : (Lit.int .i64 p).wf = true) (hq : (Lit.int .i64 q).wf = true) :
    (Instr.lookup 52 (.map (some B)) (.agg #[.int .i64 p, .int .i64 q]) true).run Tryz.prog w = .ok (.tuple #[.agg #[.int .i64 0, .int .i64 0, .int .i64 0, .slice none 0 0, .int .i64 0, .int .i64 0, .int .i64 0, .bool false], .bool false]) w := by
  obtain ⟨ps, hPu, hps⟩ := h
  have h1 := hPu.look (r := (p, q)) hp hq
  have h2 := hl ps hps
  rw [hf] at h2
  cases h3 : findP ps (p, q) with
  | none => rw [h3] at h1; exact h1
  | some x => rw [h3] at h2; cases h2
theorem look_some {w : World} {lo B : Nat} {cs : List Co} {p q : Int} {x : Co} (h : ∃ ps, Pu w lo B ps ∧ ps.map (·.1) = cs) (hl : ∀ ps : List (Co × Value), ps.map (·.1) = cs → cs.find? (fun c => decide ((c.p, c.q) = (p, q))) = (findP ps (p, q)).map (·.1)) (hf : cs.find? (fun c => decide ((c.p, c.q) = (p, q))) = some x) (hp : (Lit.int .i64 p).wf = true) (hq : (Lit.int .i64 q).wf = true) :
    ∃ ua uc, (Instr.lookup 52 (.map (some B)) (.agg #[.int .i64 p, .int .i64 q]) true).run Tryz.prog w = .ok (.tuple #[.agg #[.int .i64 x.p, .int .i64 x.q, .int .i64 x.v, .slice ua x.l.length uc, .int .i64 x.x, .int .i64 x.y, .int .i64 x.h, .bool x.m], .bool true]) w ∧ Hid (w.ownsRow lo 2 1 (.slice ua x.l.length uc) x.l.length (ints x.l)) := by
  obtain ⟨ps, hPu, hps⟩ := h
  have h1 := hPu.look (r := (p, q)) hp hq
  have h2 := hl ps hps
  rw [hf] at h2
  cases h3 : findP ps (p, q) with
  | none => rw [h3] at h2; cases h2
  | some y =>
    rw [h3] at h1 h2
    obtain ⟨y1, u⟩ := y
    obtain rfl : x = y1 := by simpa using h2
    have hrow := hPu.rows (x, u) (by unfold findP at h3; exact List.mem_of_find?_eq_some h3)
    obtain ⟨ua, uc, hu⟩ : ∃ ua uc, u = .slice ua x.l.length uc := by
      rcases hrow.2 with ⟨e1, e2⟩ | ⟨g, cp, cur, e1, _⟩
      · exact ⟨none, 0, by rw [show u = .slice none 0 0 from e1, show x.l.length = 0 from e2]⟩
      · exact ⟨some ⟨g, 0, none⟩, cp, e1⟩
    subst hu
    exact ⟨ua, uc, h1, hrow⟩

set_option maxRecDepth 20000 in
set_option maxHeartbeats 2000000 in
theorem iCoinAt_any (n c : Nat) (a : Option Addr) (cs : List Co) (p q : Int) (w : World) (hn : n ≤ 1048576) (hk : ∀ j, j < n → (cs.getD j C0).l.length ≤ 1048576) (hp : (Lit.int .i64 p).wf = true) (hq : (Lit.int .i64 q).wf = true) (hC : CAt w a n cs) :
    Calls Tryz.prog 10 #[.slice a n c, .agg #[.int .i64 p, .int .i64 q]] w fun e w' => OutCs w w' e (atR cs (p, q)).1 (atR cs (p, q)).2 := by
  obtain ⟨t0, t1, t2⟩ := blocks2 w (.cells #[.int .i64 p, .int .i64 q] 38) (.cells #[.int .i64 0, .slice none 0 0] 32)
  have hbx : Below w.heap.size w ((w.alloc (.cells #[.int .i64 p, .int .i64 q] 38)).alloc (.cells #[.int .i64 0, .slice none 0 0] 32)) := below_box2 _ _
  have hF := fillPurse_any n c a cs ((w.alloc (.cells #[.int .i64 p, .int .i64 q] 38)).alloc (.cells #[.int .i64 0, .slice none 0 0] 32)) hn hk (hC.below hbx (Nat.le_refl _))
  have HBX : Hid (Below w.heap.size w ((w.alloc (.cells #[.int .i64 p, .int .i64 q] 38)).alloc (.cells #[.int .i64 0, .slice none 0 0] 32))) := hbx
  have T0 : Hid (((w.alloc (.cells #[.int .i64 p, .int .i64 q] 38)).alloc (.cells #[.int .i64 0, .slice none 0 0] 32)).heap[w.heap.size]? = some (.cells #[.int .i64 p, .int .i64 q] 38 (0, 0))) := t0
  have T1 : Hid (((w.alloc (.cells #[.int .i64 p, .int .i64 q] 38)).alloc (.cells #[.int .i64 0, .slice none 0 0] 32)).heap[w.heap.size + 1]? = some (.cells #[.int .i64 0, .slice none 0 0] 32 (0, 0))) := t1
  have HSZ : Hid (((w.alloc (.cells #[.int .i64 p, .int .i64 q] 38)).alloc (.cells #[.int .i64 0, .slice none 0 0] 32)).heap.size = w.heap.size + 1 + 1) := t2
  have HWF : Hid ((Lit.int .i64 p).wf = true ∧ (Lit.int .i64 q).wf = true) := ⟨hp, hq⟩
  clear hbx t0 t1 t2 hC hk hp hq
  by_cases h0 : coinsR cs = 0
  · have hF' : Calls Tryz.prog 17 #[.slice a n c] ((w.alloc (.cells #[.int .i64 p, .int .i64 q] 38)).alloc (.cells #[.int .i64 0, .slice none 0 0] 32)) fun e w' => Below ((w.alloc (.cells #[.int .i64 p, .int .i64 q] 38)).alloc (.cells #[.int .i64 0, .slice none 0 0] 32)).heap.size ((w.alloc (.cells #[.int .i64 p, .int .i64 q] 38)).alloc (.cells #[.int .i64 0, .slice none 0 0] 32)) w' ∧ ∃ B, e = .returned (.tuple #[.map (some B), .int .i64 0]) ∧ Hid (∃ ps, Pu w' (w.heap.size + 1 + 1) B ps ∧ ps.map (·.1) = cs) := hF.mono fun e w' h => by
      rcases h.2 with h1 | ⟨_, B, ps, h1, h2, h3⟩
      · exact absurd h0 h1.1
      · rw [HSZ.out] at h2
        exact ⟨h.1, B, h1, ps, h2, h3⟩
    clear hF
    have HL : Hid (∀ ps : List (Co × Value), ps.map (·.1) = cs → cs.find? (fun c => decide ((c.p, c.q) = (p, q))) = (findP ps (p, q)).map (·.1)) := fun ps h => by rw [← h]; exact find_map
    cases hfd : cs.find? (fun c => decide ((c.p, c.q) = (p, q))) with
    | none =>
      have hr : atR cs (p, q) = (4, []) := by unfold atR; rw [if_neg (by simp [h0]), hfd]
      rw [hr]
      have HFD : Hid (cs.find? (fun c => decide ((c.p, c.q) = (p, q))) = none) := hfd
      clear hr hfd h0
      go_enter Tryz.func10, Tryz.ntmps10
      go_wp2_with (first
        | (go_at_call 17; (with_reducible refine hF'.mono ?_); clear hF'; rintro e w2 ⟨hb2, B, rfl, HPU⟩; have HT0 := keepb T0.out hb2; have HT1 := keepb T1.out hb2; have HB2 : Hid (Below w.heap.size w w2) := HBX.out.trans (hb2.mono HBX.out.size); obtain ⟨s0, s1⟩ := cells2 HT0.out; obtain ⟨y0, y1⟩ := cells2 HT1.out; have f0 := Joins.unfrozen_of_block HT1.out 0; have f1 := Joins.unfrozen_of_block HT1.out 1; have hsz2 := hb2.size; rw [HSZ.out] at hsz2; clear hb2; have hrun : (Instr.lookup 52 (.map (some B)) (.agg #[.int .i64 p, .int .i64 q]) true).run Tryz.prog w2 = .ok (.tuple #[.agg #[.int .i64 0, .int .i64 0, .int .i64 0, .slice none 0 0, .int .i64 0, .int .i64 0, .int .i64 0, .bool false], .bool false]) w2 := (look_none HPU.out HL.out HFD.out HWF.out.1 HWF.out.2); have HU : Hid ((w2.alloc (.cells #[.int .i64 0, .int .i64 0, .int .i64 0, .slice none 0 0, .int .i64 0, .int .i64 0, .int .i64 0, .bool false] 75)).heap[w.heap.size + 1]? = some (.cells #[.int .i64 0, .slice none 0 0] 32 (0, 0))) := keepb HT1.out (below_box _); clear y0 y1 f0 f1; obtain ⟨y0, y1⟩ := cells2 HU.out; have f0 := Joins.unfrozen_of_block HU.out 0; have f1 := Joins.unfrozen_of_block HU.out 1))
      have HB3 : Below w.heap.size w (w2.alloc (.cells #[.int .i64 0, .int .i64 0, .int .i64 0, .slice none 0 0, .int .i64 0, .int .i64 0, .int .i64 0, .bool false] 75)) := HB2.out.trans ((below_box _).mono HB2.out.size)
      obtain ⟨_, j1⟩ := two_set HU.out (.int .i64 4) (.slice none 0 0)
      refine bodyPost_ret (v := .agg #[.int .i64 4, .slice none 0 0]) (by simp [results, Tryz.results10, go_sem, j1]) rfl ⟨_, _, rfl, COwn.zero _, (HB3.setCell (p := ⟨w.heap.size + 1, 0, none⟩) (show w.heap.size ≤ w.heap.size + 1 by omega) _).setCell (p := ⟨w.heap.size + 1, 1, none⟩) (show w.heap.size ≤ w.heap.size + 1 by omega) _⟩
    | some x =>
      have hr : atR cs (p, q) = (0, [x]) := by unfold atR; rw [if_neg (by simp [h0]), hfd]
      rw [hr]
      have HFD : Hid (cs.find? (fun c => decide ((c.p, c.q) = (p, q))) = some x) := hfd
      clear hr hfd h0
      go_enter Tryz.func10, Tryz.ntmps10
      go_wp2_with (first
        | (go_at_call 17; (with_reducible refine hF'.mono ?_); clear hF'; rintro e w2 ⟨hb2, B, rfl, HPU⟩; have HT0 := keepb T0.out hb2; have HT1 := keepb T1.out hb2; have HB2 : Hid (Below w.heap.size w w2) := HBX.out.trans (hb2.mono HBX.out.size); obtain ⟨s0, s1⟩ := cells2 HT0.out; obtain ⟨y0, y1⟩ := cells2 HT1.out; have f0 := Joins.unfrozen_of_block HT1.out 0; have f1 := Joins.unfrozen_of_block HT1.out 1; have hsz2 := hb2.size; rw [HSZ.out] at hsz2; clear hb2; obtain ⟨ua, uc, hrun, HROW⟩ := look_some HPU.out HL.out HFD.out HWF.out.1 HWF.out.2; have HU : Hid (((w2.alloc (.cells #[.int .i64 x.p, .int .i64 x.q, .int .i64 x.v, .slice ua x.l.length uc, .int .i64 x.x, .int .i64 x.y, .int .i64 x.h, .bool x.m] 75)).alloc (.cells #[.int .i64 x.p, .int .i64 x.q, .int .i64 x.v, .slice ua x.l.length uc, .int .i64 x.x, .int .i64 x.y, .int .i64 x.h, .bool x.m] 75)).heap[w.heap.size + 1]? = some (.cells #[.int .i64 0, .slice none 0 0] 32 (0, 0))) := keepb HT1.out (below_box2 _ _); clear y0 y1 f0 f1; obtain ⟨y0, y1⟩ := cells2 HU.out; have f0 := Joins.unfrozen_of_block HU.out 0; have f1 := Joins.unfrozen_of_block HU.out 1))
      have HB3 : Below w.heap.size w ((w2.alloc (.cells #[.int .i64 x.p, .int .i64 x.q, .int .i64 x.v, .slice ua x.l.length uc, .int .i64 x.x, .int .i64 x.y, .int .i64 x.h, .bool x.m] 75)).alloc (.cells #[.int .i64 x.p, .int .i64 x.q, .int .i64 x.v, .slice ua x.l.length uc, .int .i64 x.x, .int .i64 x.y, .int .i64 x.h, .bool x.m] 75)) := HB2.out.trans ((below_box2 _ _).mono HB2.out.size)
      obtain ⟨_, j1⟩ := two_set HU.out (.int .i64 0) (.slice (some ⟨w2.heap.size + 1, 0, none⟩) 1 1)
      refine bodyPost_ret (v := .agg #[.int .i64 0, .slice (some ⟨w2.heap.size + 1, 0, none⟩) 1 1]) (by simp [results, Tryz.results10, go_sem, j1]) rfl ⟨_, fun _ => .slice ua x.l.length uc, rfl, ?_, (HB3.setCell (p := ⟨w.heap.size + 1, 0, none⟩) (show w.heap.size ≤ w.heap.size + 1 by omega) _).setCell (p := ⟨w.heap.size + 1, 1, none⟩) (show w.heap.size ≤ w.heap.size + 1 by omega) _⟩
      have hX := (blocks2 w2 (.cells #[.int .i64 x.p, .int .i64 x.q, .int .i64 x.v, .slice ua x.l.length uc, .int .i64 x.x, .int .i64 x.y, .int .i64 x.h, .bool x.m] 75) (.cells #[.int .i64 x.p, .int .i64 x.q, .int .i64 x.v, .slice ua x.l.length uc, .int .i64 x.x, .int .i64 x.y, .int .i64 x.h, .bool x.m] 75)).2.1
      have hrow3 : ((w2.alloc (.cells #[.int .i64 x.p, .int .i64 x.q, .int .i64 x.v, .slice ua x.l.length uc, .int .i64 x.x, .int .i64 x.y, .int .i64 x.h, .bool x.m] 75)).alloc (.cells #[.int .i64 x.p, .int .i64 x.q, .int .i64 x.v, .slice ua x.l.length uc, .int .i64 x.x, .int .i64 x.y, .int .i64 x.h, .bool x.m] 75)).ownsRow (w.heap.size + 1 + 1) 2 1 (.slice ua x.l.length uc) x.l.length (ints x.l) := HROW.out.kept (grown_of_below (below_box2 _ _)) (by cases Value.ownBlock (.slice ua x.l.length uc) <;> simp)
      have hO := COwn.one (lo := w.heap.size + 1 + 1) hX (by omega) hrow3
      have nb : ∀ b, (Value.slice ua x.l.length uc).ownBlock = some b → w.heap.size + 1 + 1 ≤ b := fun b hb => (hrow3.lt b hb).1
      have hne : (Value.slice (some ⟨w2.heap.size + 1, 0, none⟩) 1 1).ownBlock ≠ some (w.heap.size + 1) := fun e => by
        have e2 : w2.heap.size + 1 = w.heap.size + 1 := (by simpa [Value.ownBlock] using e)
        omega
      have hO2 := (hO.set2 (b := w.heap.size + 1) hne (fun _ _ e => by have := nb _ e; omega) 0 (.int .i64 0)).set2 (b := w.heap.size + 1) hne (fun _ _ e => by have := nb _ e; omega) 1 (.slice (some ⟨w2.heap.size + 1, 0, none⟩) 1 1)
      refine COwn.lower (hi := ((w2.alloc (.cells #[.int .i64 x.p, .int .i64 x.q, .int .i64 x.v, .slice ua x.l.length uc, .int .i64 x.x, .int .i64 x.y, .int .i64 x.h, .bool x.m] 75)).alloc (.cells #[.int .i64 x.p, .int .i64 x.q, .int .i64 x.v, .slice ua x.l.length uc, .int .i64 x.x, .int .i64 x.y, .int .i64 x.h, .bool x.m] 75)).heap.size) hO2 (by omega) (by simp)
  · have hr : atR cs (p, q) = (coinsR cs, []) := by unfold atR; rw [if_pos h0]
    rw [hr]
    obtain ⟨cd, hcd⟩ : ∃ r, r = coinsR cs := ⟨_, rfl⟩
    have hF' : Calls Tryz.prog 17 #[.slice a n c] ((w.alloc (.cells #[.int .i64 p, .int .i64 q] 38)).alloc (.cells #[.int .i64 0, .slice none 0 0] 32)) fun e w' => Below ((w.alloc (.cells #[.int .i64 p, .int .i64 q] 38)).alloc (.cells #[.int .i64 0, .slice none 0 0] 32)).heap.size ((w.alloc (.cells #[.int .i64 p, .int .i64 q] 38)).alloc (.cells #[.int .i64 0, .slice none 0 0] 32)) w' ∧ e = .returned (.tuple #[.map none, .int .i64 cd]) := hF.mono fun e w' h => by
      rcases h.2 with h1 | h1
      · rw [hcd]; exact ⟨h.1, h1.2⟩
      · exact absurd h1.1 h0
    rw [← hcd] at h0 ⊢
    clear hF hcd hr
    go_enter Tryz.func10, Tryz.ntmps10
    go_wp2_with (first
      | (go_at_call 17; (with_reducible refine hF'.mono ?_); clear hF'; rintro e w2 ⟨hb2, rfl⟩; have HT0 := keepb T0.out hb2; have HT1 := keepb T1.out hb2; have HB2 : Hid (Below w.heap.size w w2) := HBX.out.trans (hb2.mono HBX.out.size); obtain ⟨s0, s1⟩ := cells2 HT0.out; obtain ⟨y0, y1⟩ := cells2 HT1.out; have f0 := Joins.unfrozen_of_block HT1.out 0; have f1 := Joins.unfrozen_of_block HT1.out 1; have hsz2 := hb2.size; rw [HSZ.out] at hsz2; clear hb2))
    obtain ⟨_, j1⟩ := two_set HT1.out (.int .i64 cd) (.slice none 0 0)
    have HB3 := HB2.out
    refine bodyPost_ret (v := .agg #[.int .i64 cd, .slice none 0 0]) (by simp [results, Tryz.results10, go_sem, j1]) rfl ⟨_, _, rfl, COwn.zero _, (HB3.setCell (p := ⟨w.heap.size + 1, 0, none⟩) (show w.heap.size ≤ w.heap.size + 1 by omega) _).setCell (p := ⟨w.heap.size + 1, 1, none⟩) (show w.heap.size ≤ w.heap.size + 1 by omega) _⟩

end Go.Proofs.YthjolannlefbcaaGreatDoor

namespace Go.Proofs.YthjolannlefbcaaGreatDoor
open Go.RowKit Go.Maps Go.WideMaps

set_option maxRecDepth 20000 in
set_option maxHeartbeats 1000000 in
theorem l2Copy_any (b off n cap : Nat) (l : List Int) (x y : Int) (w : World) (hn : n ≤ 1048576) (hI : IAt w (some ⟨b, off, none⟩) n l) :
    Calls Tryz.prog 86 #[.agg #[.slice (some ⟨b, off, none⟩) n cap, .int .i64 x, .int .i64 y]] w fun e w' => ∃ g c, e = .returned (.agg #[.slice (some ⟨g, 0, none⟩) n c, .int .i64 x, .int .i64 y]) ∧ w'.ownsRow (w.heap.size + 1 + 1) 2 1 (.slice (some ⟨g, 0, none⟩) n c) n (ints l) ∧ Below w.heap.size w w' := by
  obtain ⟨t0, t1, t2, t3⟩ := three_blocks w (.cells #[.slice (some ⟨b, off, none⟩) n cap, .int .i64 x, .int .i64 y] 71) (.cells #[.slice none 0 0, .int .i64 0, .int .i64 0] 71) (.cells #[] 2)
  have hbx : Below w.heap.size w (((w.alloc (.cells #[.slice (some ⟨b, off, none⟩) n cap, .int .i64 x, .int .i64 y] 71)).alloc (.cells #[.slice none 0 0, .int .i64 0, .int .i64 0] 71)).alloc (.cells #[] 2)) := below_box3 _ _ _
  obtain ⟨g, kc, w3, hrun, HW⟩ := keys_added (W := (((w.alloc (.cells #[.slice (some ⟨b, off, none⟩) n cap, .int .i64 x, .int .i64 y] 71)).alloc (.cells #[.slice none 0 0, .int .i64 0, .int .i64 0] 71)).alloc (.cells #[] 2))) (X := w.heap.size + 1 + 1) (c := cap) (base := w.heap.size + 1 + 1) t2 (Nat.le_refl _) (hI.below hbx (Nat.le_refl _)) hn (by rw [t3]; omega)
  have h0 : w3.heap[w.heap.size]? = some (.cells #[.slice (some ⟨b, off, none⟩) n cap, .int .i64 x, .int .i64 y] 71 (0, 0)) := (HW.out.2.block w.heap.size (by rw [t3]; omega) (by simp; omega)).trans t0
  have h1 : w3.heap[w.heap.size + 1]? = some (.cells #[.slice none 0 0, .int .i64 0, .int .i64 0] 71 (0, 0)) := (HW.out.2.block (w.heap.size + 1) (by rw [t3]; omega) (by simp)).trans t1
  have HB3 : Hid (Below w.heap.size w w3) := grown_new hbx HW.out.2 (by omega)
  obtain ⟨s0, s1, s2⟩ := cells3 h0
  obtain ⟨r0, r1, r2⟩ := cells3 h1
  have f0 := Joins.unfrozen_of_block h0 0
  have q0 := Joins.unfrozen_of_block h1 0
  have q1 := Joins.unfrozen_of_block h1 1
  have q2 := Joins.unfrozen_of_block h1 2
  have H1 : Hid (w3.heap[w.heap.size + 1]? = some (.cells #[.slice none 0 0, .int .i64 0, .int .i64 0] 71 (0, 0))) := h1
  clear t0 t1 t2 t3 hbx hI h0 h1
  go_enter Tryz.func86, Tryz.ntmps86
  go_wp2_with (first | (at_builtin; go_must (refine wpList_append_runC (by rfl) _ _ _ (by rfl) (by rfl) (by rfl) hrun ?_); clear hrun))
  have hR : (w3.setCell ⟨w.heap.size, 0, none⟩ (.slice (some ⟨g, 0, none⟩) n kc)).heap[w.heap.size + 1]? = some (.cells #[.slice none 0 0, .int .i64 0, .int .i64 0] 71 (0, 0)) := (Below.heap_setCell _ ⟨w.heap.size, 0, none⟩ _ (w.heap.size + 1) (show w.heap.size + 1 ≠ w.heap.size by omega)).trans H1.out
  obtain ⟨j0, j1, j2⟩ := three_set hR (.slice (some ⟨g, 0, none⟩) n kc) (.int .i64 x) (.int .i64 y)
  refine bodyPost_ret (v := .agg #[.slice (some ⟨g, 0, none⟩) n kc, .int .i64 x, .int .i64 y]) (by simp [results, Tryz.results86, go_sem, j0, j1, j2]) rfl ⟨g, kc, rfl, ?_, ?_⟩
  · exact row_set3 (ownsRow_setCell_below HW.out.1 (a := ⟨w.heap.size, 0, none⟩) (show w.heap.size < _ by omega) _) (by omega) _ _ _
  · exact below_set3 (HB3.out.setCell (p := ⟨w.heap.size, 0, none⟩) (Nat.le_refl _) _) (by omega) _ _ _

/-- A coin more: what the append leaves. -/
theorem coin_added {W : World} {lo X j : Nat} {v u : Value} {f : Nat → Co} {kv : Nat → Value} {o : Co} (h : COwn W lo W.heap.size v j f kv) (hX : W.heap[X]? = some (.cells #[.int .i64 o.p, .int .i64 o.q, .int .i64 o.v, u, .int .i64 o.x, .int .i64 o.y, .int .i64 o.h, .bool o.m] 75 (0, 0))) (hu1 : u.oneCell' = true) (hrow : W.ownsRow lo 2 1 u o.l.length (ints o.l)) (hap : ∀ i, i < j → ∀ b, (kv i).ownBlock = some b → u.ownBlock ≠ some b) (hj : j ≤ 1000) (hlo : lo ≤ W.heap.size) (hf : f j = o) :
    ∃ g cap w5, (Builtin.append_ #[24, 24] 24 #[v, .slice (some ⟨X, 0, none⟩) 1 1]).run Tryz.prog W = .ok (.slice (some ⟨g, 0, none⟩) (j + 1) cap) w5 ∧
      Hid (COwn w5 lo w5.heap.size (.slice (some ⟨g, 0, none⟩) (j + 1) cap) (j + 1) f (fun i => if i = j then u else kv i) ∧ W.grownBy w5 v.ownBlock) := by
  obtain ⟨i0, hi, hz0, hz1, hz2⟩ := info_parts Tryz.infoCoin
  obtain ⟨xs, hown, hcells⟩ := h.row
  obtain ⟨v', w5, hrun, hown', hgrow, hsome⟩ := run_append_own (P := Tryz.prog) W lo 24 24 75 i0 (.agg #[.int .i64 0, .int .i64 0, .int .i64 0, .slice none 0 0, .int .i64 0, .int .i64 0, .int .i64 0, .bool false]) 8 80 Tryz.underlying24 hi hz0 hz1 hz2 rfl (by decide) v j xs hown ⟨X, 0, none⟩ 1 1 [.int .i64 o.p, .int .i64 o.q, .int .i64 o.v, u, .int .i64 o.x, .int .i64 o.y, .int .i64 o.h, .bool o.m] rfl (World.news_of_block hX) (by
    intro z hz
    simp only [List.mem_cons, List.not_mem_nil, or_false] at hz
    rcases hz with rfl | rfl | rfl | rfl | rfl | rfl | rfl | rfl <;> first | rfl | exact hu1) (by unfold maxLen; omega) (by omega) hlo
  obtain ⟨g, cap, rfl⟩ := ownsRow_succ hown'
  have hxl := hown.1
  have kp : ∀ (z : Value) (d : Nat) (zs : List Value), W.ownsRow lo 2 1 z d zs → w5.ownsRow lo 2 1 z d zs := fun z d zs hz => hz.kept hgrow (by
    cases e : z.ownBlock with
    | none => exact .inl rfl
    | some b => exact .inr fun e2 => rows_apart (by decide) hown hz b e2.symm e)
  refine ⟨g, cap, w5, hrun, ⟨⟨_, hown', fun i hi => ?_⟩, fun b hb => (hown'.lt b hb).2, fun i hi => ?_, fun i k hik hk b hb => ?_⟩, hgrow⟩
  · by_cases e : i = j
    · subst e
      rw [if_pos rfl, hf]
      refine ⟨?_, ?_, ?_, ?_, ?_, ?_, ?_, ?_⟩ <;> (rw [List.getElem?_append_right (by omega), hxl]; simp)
    · obtain ⟨a0, a1, a2, a3, a4, a5, a6, a7⟩ := hcells i (by omega)
      rw [if_neg e]
      refine ⟨?_, ?_, ?_, ?_, ?_, ?_, ?_, ?_⟩
      · rw [List.getElem?_append_left (by omega)]; exact a0
      · rw [List.getElem?_append_left (by omega)]; exact a1
      · rw [List.getElem?_append_left (by omega)]; exact a2
      · rw [List.getElem?_append_left (by omega)]; exact a3
      · rw [List.getElem?_append_left (by omega)]; exact a4
      · rw [List.getElem?_append_left (by omega)]; exact a5
      · rw [List.getElem?_append_left (by omega)]; exact a6
      · rw [List.getElem?_append_left (by omega)]; exact a7
  · by_cases e : i = j
    · subst e
      rw [if_pos rfl, hf]
      exact ⟨kp _ _ _ hrow, fun b hb => ((kp _ _ _ hrow).lt b hb).2⟩
    · rw [if_neg e]
      have := kp _ _ _ (h.keys i (by omega)).1
      exact ⟨this, fun b hb => (this.lt b hb).2⟩
  · rw [if_neg (by omega)] at hb
    by_cases e : k = j
    · rw [if_pos e]; exact hap i (by omega) b hb
    · rw [if_neg e]; exact h.apart i k hik (by omega) b hb

end Go.Proofs.YthjolannlefbcaaGreatDoor

namespace Go.Proofs.YthjolannlefbcaaGreatDoor
open Go.RowKit Go.Maps Go.WideMaps

theorem memB_iff {gs : List (Int × Int)} {x : Int × Int} : memB gs x = true ↔ x ∈ gs := by
  have := num_zero gs x
  unfold memB
  by_cases h : x ∈ gs
  · simp [h] at this; simp [h, this]
  · simp [h] at this; simp [h, this]
end Go.Proofs.YthjolannlefbcaaGreatDoor

namespace Go.Proofs.YthjolannlefbcaaGreatDoor
open Go.RowKit Go.Maps Go.WideMaps

theorem gat_ref {w : World} {base n c : Nat} {a : Option Addr} {gs : List (Int × Int)} (h : w.ownsRow base 38 2 (.slice a n c) n (gcells gs)) (hn : gs.length = n) : GAt w a n gs := by
  rcases h.2 with ⟨e, e0⟩ | ⟨g, cap, cur, e, _⟩
  · cases e; exact ⟨hn, .inl e0⟩
  · cases e; exact GAt.owned h hn
theorem gcells_snoc (gs : List (Int × Int)) (p q : Int) : gcells (gs ++ [(p, q)]) = gcells gs ++ [.int .i64 p, .int .i64 q] := by
  unfold gcells
  rw [List.flatMap_append]
  rfl
/-- A ref more: what the append leaves. -/
theorem ref_added {W : World} {lo X j : Nat} {v : Value} {gs : List (Int × Int)} {p q : Int} (h : W.ownsRow lo 38 2 v j (gcells gs)) (hX : W.heap[X]? = some (.cells #[.int .i64 p, .int .i64 q] 38 (0, 0))) (hj : j ≤ 1000) (hlo : lo ≤ W.heap.size) :
    ∃ g cap w5, (Builtin.append_ #[25, 25] 25 #[v, .slice (some ⟨X, 0, none⟩) 1 1]).run Tryz.prog W = .ok (.slice (some ⟨g, 0, none⟩) (j + 1) cap) w5 ∧
      Hid (w5.ownsRow lo 38 2 (.slice (some ⟨g, 0, none⟩) (j + 1) cap) (j + 1) (gcells (gs ++ [(p, q)])) ∧ W.grownBy w5 v.ownBlock) := by
  obtain ⟨i0, hi, hz0, hz1, hz2⟩ := info_parts Tryz.infoRef
  obtain ⟨v', w5, hrun, hown', hgrow, hsome⟩ := run_append_own (P := Tryz.prog) W lo 25 25 38 i0 (.agg #[.int .i64 0, .int .i64 0]) 2 16 Tryz.underlying25 hi hz0 hz1 hz2 rfl (by decide) v j (gcells gs) h ⟨X, 0, none⟩ 1 1 [.int .i64 p, .int .i64 q] rfl (World.news_of_block hX) (by
    intro z hz
    simp only [List.mem_cons, List.not_mem_nil, or_false] at hz
    rcases hz with rfl | rfl <;> rfl) (by unfold maxLen; omega) (by omega) hlo
  obtain ⟨g, cap, rfl⟩ := ownsRow_succ hown'
  refine ⟨g, cap, w5, hrun, ?_, hgrow⟩
  rw [gcells_snoc]
  exact hown'
end Go.Proofs.YthjolannlefbcaaGreatDoor

namespace Go.Proofs.YthjolannlefbcaaGreatDoor
open Go.RowKit Go.Maps Go.WideMaps

/-- An append in a region, out of its own run. -/
theorem step_append_runM {P : Program} {w : World} {ops : Array Oper} {o : Oper} {a : Act} {K : Act → World → Prop} {Q : Exit → Act → World → Prop} {E : Prop} (hgd : o.guard = none) (s x : Operand) (t : TypeId)
    (hop : o.op = .call { callee := .builtin .append, args := #[s, x], argTypes := #[t, t] }) {v u v' : Value} {w' : World} (hs : a.eval s = v) (hx : a.eval x = u) (hrun : (Builtin.append_ #[t, t] o.type #[v, u]).run P w = .ok v' w') (h : K (a.put o.dst v') w') :
    if Region.wanted o (yielded ops a.tmps) = true then Oper.wp P o a w K Q else E := by
  rw [if_pos (by simp [Region.wanted, hgd])]
  unfold Oper.wp
  simp [execOp, hop, resolve, invoke, builtin, hs, hx, hrun, Result.andThen]
  exact h

end Go.Proofs.YthjolannlefbcaaGreatDoor

namespace Go.Proofs.YthjolannlefbcaaGreatDoor
open Go.RowKit Go.Maps Go.WideMaps

theorem l1Chance_any (SB cn cc t : Nat) (ca : Option Addr) (l : List Int) (k : Int) (w v : World) (hk : k ≤ 200) (ht : t ≤ 1000) (hcn : cn ≤ 1048577) (hB : BAt w ca cn l) (h : Src w v SB ca cn cc t) :
    Calls Tryz.prog 72 #[.pointer (some ⟨SB, 0, none⟩), .int .i64 k] v fun e v' => ∃ r : Bool, e = .returned (.bool r) ∧ Src w v' SB ca cn cc (t + 1) ∧ Chg v v' SB (SB + 1) := by
  have hx := l1Next_any SB cn cc t ca l k w v hk ht hcn hB h
  clear h
  go_enter Tryz.func72, Tryz.ntmps72
  go_wp2_with (go_at_call 16; (with_reducible refine hx.mono ?_); clear hx; rintro e v1 ⟨r, rfl, _, hS, hc⟩)
  go_ret
  exact ⟨_, rfl, hS, hc⟩
end Go.Proofs.YthjolannlefbcaaGreatDoor
