/- The program puts the coins of a transaction into its purse. The program's putOuts keeps its contract. -/
import Derived.Test.YtdfijlcjmllplaaJn3
namespace Go.Proofs.Ytdfijlcjmllplaa
open Go.RowKit Go.Maps Go.WideMaps

def putFR (t : Int) (os : List Ou) (h : Int) : Int := if inB t 1 60 = false ∨ inB h 0 999 = false then 3 else if 4 < os.length then 2 else outsR os

set_option maxHeartbeats 1000000 in
theorem putFault_any (t h : Int) (m d : Nat) (oa : Option Addr) (os : List Ou) (w : World) (hm : m ≤ 1048576) (hk : ∀ j, j < m → (os.getD j O0).l.length ≤ 1048576) (hO : OAt w oa m os) :
    Calls Try.prog 42 #[.int .i64 t, .slice oa m d, .int .i64 h] w fun e w' => e = .returned (.int .i64 (putFR t os h)) ∧ Below w.heap.size w w' := by
  have hof := outsFault_any m d oa os w hm hk hO
  have HL : Hid (os.length = m) := hO.1
  obtain ⟨kt, hkt⟩ : ∃ k, k = inB t 1 60 := ⟨_, rfl⟩
  obtain ⟨kh, hkh⟩ : ∃ k, k = inB h 0 999 := ⟨_, rfl⟩
  have h1 : ∀ u, Calls Try.prog 62 #[.int .i64 t] u fun e w' => e = .returned (.bool kt) ∧ w' = u := fun u => by rw [hkt]; exact isTxId_any _ u
  have h2 : ∀ u, Calls Try.prog 56 #[.int .i64 h] u fun e w' => e = .returned (.bool kh) ∧ w' = u := fun u => by rw [hkh]; exact isHeight_any _ u
  have hr : putFR t os h = if kt = false ∨ kh = false then 3 else if 4 < m then 2 else outsR os := by unfold putFR; rw [hkt, hkh, hO.1]
  rw [hr]
  obtain ⟨ro, hro⟩ : ∃ r, r = outsR os := ⟨_, rfl⟩
  rw [← hro] at hof ⊢
  clear hr hkt hkh hk hO hro
  cases kt with
  | false =>
    rw [if_pos (.inl rfl)]
    go_enter Try.func42, Try.ntmps42
    go_wp2_with (go_at_call 62; (with_reducible refine (h1 _).mono ?_); clear h1; rintro e w' ⟨rfl, hw⟩; have hw2 := hw.symm; subst hw2)
    go_ret
    exact ⟨rfl, Below.refl _ _⟩
  | true =>
    cases kh with
    | false =>
      rw [if_pos (.inr rfl)]
      go_enter Try.func42, Try.ntmps42
      go_wp2_with (first
        | (go_at_call 62; (with_reducible refine (h1 _).mono ?_); clear h1; rintro e w' ⟨rfl, hw⟩; have hw2 := hw.symm; subst hw2)
        | (go_at_call 56; (with_reducible refine (h2 _).mono ?_); clear h2; rintro e w' ⟨rfl, hw⟩; have hw2 := hw.symm; subst hw2))
      go_ret
      exact ⟨rfl, Below.refl _ _⟩
    | true =>
      rw [if_neg (by simp)]
      by_cases h4 : 4 < m
      · rw [if_pos h4]
        have h4i : (4 : Int) < (m : Int) := by omega
        go_enter Try.func42, Try.ntmps42
        go_wp2_with (first
          | (go_at_call 62; (with_reducible refine (h1 _).mono ?_); clear h1; rintro e w' ⟨rfl, hw⟩; have hw2 := hw.symm; subst hw2)
          | (go_at_call 56; (with_reducible refine (h2 _).mono ?_); clear h2; rintro e w' ⟨rfl, hw⟩; have hw2 := hw.symm; subst hw2))
        go_ret
        exact ⟨rfl, Below.refl _ _⟩
      · rw [if_neg h4]
        have h4i : ¬ (4 : Int) < (m : Int) := by omega
        go_enter Try.func42, Try.ntmps42
        go_wp2_with (first
          | (go_at_call 62; (with_reducible refine (h1 _).mono ?_); clear h1; rintro e w' ⟨rfl, hw⟩; have hw2 := hw.symm; subst hw2)
          | (go_at_call 56; (with_reducible refine (h2 _).mono ?_); clear h2; rintro e w' ⟨rfl, hw⟩; have hw2 := hw.symm; subst hw2)
          | (go_at_call 63; (with_reducible refine hof.mono ?_); clear hof; rintro e w' ⟨rfl, hb⟩))
        go_ret
        exact ⟨rfl, hb⟩

/-- The coins that a transaction's outs make. -/
def newC (t h : Int) (m : Bool) (o : Ou) (j : Nat) : Co := ⟨t, j, o.v, o.l, o.x, o.y, h, m⟩
def newCs (t h : Int) (m : Bool) (os : List Ou) (k : Nat) : List Co := (List.range k).map fun j => newC t h m (os.getD j O0) j
theorem newCs_succ (t h : Int) (m : Bool) (os : List Ou) (k : Nat) : newCs t h m os (k + 1) = newCs t h m os k ++ [newC t h m (os.getD k O0) k] := by
  unfold newCs
  rw [List.range_succ, List.map_append]
  rfl
theorem outs_more : ∀ {os : List Ou}, outsR os = 0 → ∀ o ∈ os, 1 ≤ o.l.length ∧ o.l.length ≤ 3
  | [], _, o, ho => by cases ho
  | x :: t, h, o, ho => by
    unfold outsR at h
    by_cases h1 : inB x.v 1 1000000 = false
    · rw [if_pos h1] at h; cases h
    · rw [if_neg h1] at h
      by_cases h2 : ruleR x.l x.x x.y ≠ 0
      · rw [if_pos h2] at h; exact absurd h h2
      · rw [if_neg h2] at h
        rcases List.mem_cons.1 ho with rfl | ho
        · have h3 : ruleR o.l o.x o.y = 0 := Classical.not_not.1 h2
          unfold ruleR at h3
          by_cases h4 : inB o.l.length 1 3 = false
          · rw [if_pos h4] at h3; cases h3
          · have h5 : inB o.l.length 1 3 = true := by cases e : inB o.l.length 1 3; exact absurd e h4; rfl
            simp [inB] at h5
            omega
        · exact outs_more h o ho
theorem find_new {ps ps0 : List (Co × Value)} {t h : Int} {m : Bool} {os : List Ou} {k : Nat} (hp : ps.map (·.1) = ps0.map (·.1) ++ newCs t h m os k) (hno : txIn ps0 t = false) : findP ps (t, (k : Int)) = none := by
  unfold findP
  rw [List.find?_eq_none]
  intro x hx
  have h1 : x.1 ∈ ps0.map (·.1) ++ newCs t h m os k := by rw [← hp]; exact List.mem_map.2 ⟨x, hx, rfl⟩
  rcases List.mem_append.1 h1 with h1 | h1
  · obtain ⟨y, hy, e⟩ := List.mem_map.1 h1
    unfold txIn at hno
    rw [List.any_eq_false] at hno
    have := hno y hy
    simp [refOf]
    intro e2
    rw [← e] at e2
    exact absurd e2 (by simpa using this)
  · unfold newCs at h1
    obtain ⟨j, hj, e⟩ := List.mem_map.1 h1
    have hj' := List.mem_range.1 hj
    simp [refOf, ← e, newC]
    omega

end Go.Proofs.Ytdfijlcjmllplaa

namespace Go.Proofs.Ytdfijlcjmllplaa
open Go.RowKit Go.Maps Go.WideMaps

theorem chg_cell {w wr : World} {B : Nat} (h : Chg w wr B (B + 1)) {es : Array MapEntry} {clock : Nat} (hm : w.heap[B]? = some (.map es clock)) {a : Addr} {v : Value} (hc : w.cell? a = some v) : wr.cell? a = some v := by
  have hb : a.block ≠ B := fun e => by
    unfold World.cell? at hc
    rw [e, hm] at hc
    simp at hc
  have hl := World.block_lt_of_cell? _ _ hc
  exact (World.cell?_of_block (h.block a.block hl (by omega))).trans hc
theorem chg_ints {w wr : World} {B : Nat} (h : Chg w wr B (B + 1)) {es : Array MapEntry} {clock : Nat} (hm : w.heap[B]? = some (.map es clock)) {a : Option Addr} {n : Nat} {l : List Int} (hI : IAt w a n l) : IAt wr a n l := by
  refine ⟨hI.1, ?_⟩
  rcases hI.2 with h0 | ⟨b, off, e, hl, hc⟩
  · exact .inl h0
  · exact .inr ⟨b, off, e, Nat.lt_of_lt_of_le hl h.size, fun j hj => chg_cell h hm (hc j hj)⟩

def putsR (n : Nat) (ti : Bool) (t : Int) (os : List Ou) (h : Int) : Int := if putFR t os h ≠ 0 then putFR t os h else if ti = true then 7 else if 40 < n + os.length then 2 else 0

/-- What putOuts comes to. -/
def PutO (w w' : World) (e : Ending) (lo B : Nat) (ps : List (Co × Value)) (t h : Int) (m : Bool) (os : List Ou) : Prop :=
  e = .returned (.int .i64 (putsR ps.length (txIn ps t) t os h)) ∧ Chg w w' B (B + 1) ∧ (putsR ps.length (txIn ps t) t os h = 0 → ∃ ps', Pu w' lo B ps' ∧ ps'.map (·.1) = ps.map (·.1) ++ newCs t h m os os.length) ∧ (putsR ps.length (txIn ps t) t os h ≠ 0 → Below w.heap.size w w')

set_option maxRecDepth 20000 in
set_option maxHeartbeats 4000000 in
theorem putOuts_any (B lo : Nat) (t h : Int) (m : Bool) (n d : Nat) (oa : Option Addr) (os : List Ou) (ps : List (Co × Value)) (w : World) (hP : Pu w lo B ps) (hlo : lo ≤ w.heap.size) (hps : ps.length ≤ 40) (hn : n ≤ 1048576) (hk : ∀ j, j < n → (os.getD j O0).l.length ≤ 1048576) (hO : OAt w oa n os) :
    Calls Try.prog 23 #[.map (some B), .int .i64 t, .slice oa n d, .int .i64 h, .bool m] w fun e w' => PutO w w' e lo B ps t h m os := by
  have hF := putFault_any t h n d oa os w hn hk hO
  have HP : Hid (Pu w lo B ps) := hP
  have HO : Hid (OAt w oa n os) := hO
  have HL : Hid (os.length = n) := hO.1
  obtain ⟨f, hf⟩ : ∃ f, f = putFR t os h := ⟨_, rfl⟩
  obtain ⟨ti, hti⟩ : ∃ b, b = txIn ps t := ⟨_, rfl⟩
  have HF : Hid (putFR t os h = f) := hf.symm
  have HTI : Hid (txIn ps t = ti) := hti.symm
  rw [← hf] at hF
  have hH : ∀ W, Below w.heap.size w W → Calls Try.prog 43 #[.map (some B), .int .i64 t] W fun e w' => e = .returned (.bool ti) ∧ Below W.heap.size W w' := fun W hW => by rw [hti]; exact hasTx_any B lo t ps W (HP.out.below hW)
  clear hP hk hO
  by_cases hf0 : f = 0
  · subst hf0
    clear hf hti
    have ht60 : (1 ≤ t ∧ t ≤ 60) ∧ n ≤ 4 ∧ outsR os = 0 := by
      have h1 := HF.out
      unfold putFR at h1
      by_cases q1 : inB t 1 60 = false ∨ inB h 0 999 = false
      · rw [if_pos q1] at h1; cases h1
      · rw [if_neg q1] at h1
        have q2 : inB t 1 60 = true := by cases e : inB t 1 60; exact absurd (.inl e) q1; rfl
        by_cases q3 : 4 < os.length
        · rw [if_pos q3] at h1; cases h1
        · rw [if_neg q3] at h1
          rw [HL.out] at q3
          simp [inB] at q2
          exact ⟨q2, by omega, h1⟩
    obtain ⟨ht, hn4, hou⟩ := ht60
    have HOU : Hid (∀ o ∈ os, 1 ≤ o.l.length ∧ o.l.length ≤ 3) := outs_more hou
    clear hou
    cases ti with
    | true =>
      have HR : Hid (putsR ps.length (txIn ps t) t os h = 7) := by show putsR _ _ _ _ _ = 7; unfold putsR; rw [HF.out, HTI.out]; rfl
      go_enter Try.func23, Try.ntmps23
      go_wp2_with (first
        | (go_at_call 42; (with_reducible refine hF.mono ?_); clear hF; rintro e w2 ⟨rfl, hb2⟩; have HB2 : Hid (Below w.heap.size w w2) := hb2; have hh := hH w2 hb2; clear hH hb2)
        | (go_at_call 43; (with_reducible refine hh.mono ?_); clear hh; rintro e w3 ⟨rfl, hb3⟩))
      go_ret
      exact ⟨by rw [HR.out]; rfl, Chg.of_below (HB2.out.trans (hb3.mono HB2.out.size)) _ _, (fun e => by rw [HR.out] at e; cases e), fun _ => HB2.out.trans (hb3.mono HB2.out.size)⟩
    | false =>
      by_cases h40 : 40 < ps.length + n
      · have HR : Hid (putsR ps.length (txIn ps t) t os h = 2) := by show putsR _ _ _ _ _ = 2; unfold putsR; rw [HF.out, HTI.out, HL.out, if_neg (by simp), if_neg (by simp), if_pos h40]
        have h40i : (40 : Int) < (ps.length : Int) + (n : Int) := by omega
        have hwr : IntKind.i64.wrap ((ps.length : Int) + (n : Int)) = (ps.length : Int) + (n : Int) := IntWalk.i64_in _ (by omega)
        go_enter Try.func23, Try.ntmps23
        go_wp2_with (first
          | (go_at_call 42; (with_reducible refine hF.mono ?_); clear hF; rintro e w2 ⟨rfl, hb2⟩; have HB2 : Hid (Below w.heap.size w w2) := hb2; have hh := hH w2 hb2; clear hH hb2)
          | (go_at_call 43; (with_reducible refine hh.mono ?_); clear hh; rintro e w3 ⟨rfl, hb3⟩; have HB3 : Hid (Below w.heap.size w w3) := HB2.out.trans (hb3.mono HB2.out.size); have hlen := (HP.out.below HB3.out).len; clear hb3))
        go_ret
        exact ⟨by rw [HR.out]; rfl, Chg.of_below HB3.out _ _, (fun e => by rw [HR.out] at e; cases e), fun _ => HB3.out⟩
      · have HR : Hid (putsR ps.length (txIn ps t) t os h = 0) := by show putsR _ _ _ _ _ = 0; unfold putsR; rw [HF.out, HTI.out, HL.out, if_neg (by simp), if_neg (by simp), if_neg h40]
        have h40i : ¬ (40 : Int) < (ps.length : Int) + (n : Int) := by omega
        have hwr : IntKind.i64.wrap ((ps.length : Int) + (n : Int)) = (ps.length : Int) + (n : Int) := IntWalk.i64_in _ (by omega)
        go_enter Try.func23, Try.ntmps23
        go_wp2_with (first
          | (go_at_call 42; (with_reducible refine hF.mono ?_); clear hF; rintro e w2 ⟨rfl, hb2⟩; have HB2 : Hid (Below w.heap.size w w2) := hb2; have hh := hH w2 hb2; clear hH hb2)
          | (go_at_call 43; (with_reducible refine hh.mono ?_); clear hh; rintro e w3 ⟨rfl, hb3⟩; have HB3 : Hid (Below w.heap.size w w3) := HB2.out.trans (hb3.mono HB2.out.size); have hlen := (HP.out.below HB3.out).len; clear hb3))
        go_loopw [32] (fun i wr => ∃ j : Nat, j ≤ n ∧ i = .int .i64 j ∧ Hid (Chg w wr B (B + 1)) ∧ Hid (∃ ps', Pu wr lo B ps' ∧ ps'.map (·.1) = ps.map (·.1) ++ newCs t h m os j)) (fun i _ => n - (intOf i).toNat)
        case atStart => exact ⟨0, Nat.zero_le _, rfl, Chg.of_below HB3.out _ _, ps, HP.out.below HB3.out, by simp [newCs]⟩
        case round =>
          obtain ⟨j, hj, rfl, HC, HM⟩ := hrel
          by_cases hlt : j < n
          · rcases HO.out.2 with h0 | ⟨b, off, e0, l0, d0⟩
            · omega
            subst e0
            obtain ⟨ps', hPu, hps'⟩ := HM.out
            obtain ⟨o, ho⟩ : ∃ o, o = os.getD j O0 := ⟨_, rfl⟩
            obtain ⟨ka, kn, kc, x0, x1, x2, x3, hkn, hI⟩ := d0 j hlt
            rw [← ho] at x0 x2 x3 hI
            have hmem : o ∈ os := by rw [ho, List.getD, List.getElem?_eq_getElem (by rw [HL.out]; exact hlt)]; exact List.getElem_mem _
            obtain ⟨g1, g2⟩ := HOU.out o hmem
            have hfn := find_new hps' HTI.out
            have HNX : Hid (newCs t h m os (j + 1) = newCs t h m os j ++ [newC t h m o j]) := by show _ = _; rw [newCs_succ, ho]
            have hpl : ps'.length = ps.length + j := by
              have := congrArg List.length hps'
              simpa [newCs] using this
            obtain ⟨ov, ol, ox, oy⟩ := o
            simp only at x0 x2 x3 hI g1 g2
            obtain rfl := hI.1
            rcases hI.2 with h0 | ⟨kb, ko, ek, hkl, _⟩
            · omega
            subst ek
            have hBl := HP.out.lt
            have hBB := HP.out.base
            have hsz := HC.out.size
            obtain ⟨D, hown, _⟩ := HP.out.map
            obtain ⟨es, clock, hmB, _⟩ := hown
            have z0 := chg_cell HC.out hmB x0
            have z1 := chg_cell HC.out hmB x1
            have z2 := chg_cell HC.out hmB x2
            have z3 := chg_cell HC.out hmB x3
            have hbx : Below wr.heap.size wr (wr.alloc (.cells #[.int .i64 ov, .slice (some ⟨kb, ko, none⟩) ol.length kc, .int .i64 ox, .int .i64 oy] 36)) := below_box _
            have hput := put_any B lo kb ko kc ps' t (j : Int) ov ol ox oy h m (wr.alloc (.cells #[.int .i64 ov, .slice (some ⟨kb, ko, none⟩) ol.length kc, .int .i64 ox, .int .i64 oy] 36)) (hPu.below hbx) (Nat.le_trans (Nat.le_trans hlo hsz) hbx.size) (by omega) ((chg_ints HC.out hmB hI).below hbx (Nat.le_refl _)) (WalkArith.wf_i64 (by omega)) (WalkArith.wf_i64 (by omega)) hfn (by omega)
            have HPS : Hid (ps'.map (·.1) = ps.map (·.1) ++ newCs t h m os j) := hps'
            have HCX : Hid (Chg w (wr.alloc (.cells #[.int .i64 ov, .slice (some ⟨kb, ko, none⟩) ol.length kc, .int .i64 ox, .int .i64 oy] 36)) B (B + 1)) := HC.out.trans (Chg.of_below hbx _ _)
            have hki : (j : Int) < (n : Int) := by omega
            clear ho d0 x0 x1 x2 x3 hI hmem g1 g2 hfn hPu hps' hbx hmB hlen
            go_wp2_with (first
              | (go_at_call 44; (with_reducible refine hput.mono ?_); clear hput; rintro e w4 ⟨rfl, HPU, hch⟩; have HC4 : Hid (Chg w w4 B (B + 1)) := HCX.out.trans hch; clear hch))
            go_roundw
            case rel =>
              obtain ⟨u, hu⟩ := HPU.out
              exact ⟨j + 1, by omega, by go_num, HC4.out, _, hu, by rw [List.map_append, HPS.out, HNX.out, List.append_assoc]; rfl⟩
            case measure => simp [intOf]; omega
          · have hjn : j = n := by omega
            subst hjn
            clear hlen
            go_wp2
            go_ret
            exact ⟨by rw [HR.out]; rfl, HC.out, (fun _ => by rw [HL.out]; exact HM.out), fun e => absurd HR.out e⟩
  · have HR : Hid (putsR ps.length (txIn ps t) t os h = f) := by show putsR _ _ _ _ _ = f; unfold putsR; rw [HF.out, if_pos hf0]
    clear hf hti hH
    go_enter Try.func23, Try.ntmps23
    go_wp2_with (first
      | (go_at_call 42; (with_reducible refine hF.mono ?_); clear hF; rintro e w2 ⟨rfl, hb2⟩))
    go_ret
    exact ⟨by rw [HR.out]; rfl, Chg.of_below hb2 _ _, (fun e => by rw [HR.out] at e; exact absurd e hf0), fun _ => hb2⟩

end Go.Proofs.Ytdfijlcjmllplaa
