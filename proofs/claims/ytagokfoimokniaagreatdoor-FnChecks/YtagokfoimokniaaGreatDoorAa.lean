/- CheckTx: what it comes to, without a world; the program's ways to ask for a number and for a coin. -/
import Derived.Test.YtagokfoimokniaaGreatDoorQq
import Derived.Test.YtagokfoimokniaaGreatDoorIMet
import Derived.Test.YtagokfoimokniaaGreatDoorRi
import Derived.Test.YtagokfoimokniaaGreatDoorJn6
import Derived.Test.YtagokfoimokniaaGreatDoorJn5
import Derived.Test.YtagokfoimokniaaGreatDoorIOs
import Derived.Test.YtagokfoimokniaaGreatDoorHasSign
namespace Go.Proofs.YtagokfoimokniaaGreatDoor
open Go.RowKit Go.Shelf Go.Maps Go.WideMaps

/-- May a coin be spent: a code. -/
def mayR (gs : List (Int × Int)) (id h : Int) (c : Co) : Int := if (!c.m || decide (c.h + 2 ≤ h)) = false then 9 else if h < c.y then 9 else if (cntK c.l gs id : Int) < c.x then 6 else 0
def maysR (gs : List (Int × Int)) (id h : Int) : List Co → Int
  | [] => 0
  | c :: t => if mayR gs id h c ≠ 0 then mayR gs id h c else maysR gs id h t
theorem mays_no {gs : List (Int × Int)} {id h : Int} {c : Co} {t : List Co} {r : Int} (e : mayR gs id h c = r) (hr : r ≠ 0) : maysR gs id h (c :: t) = r := by
  unfold maysR; rw [e, if_pos hr]
theorem mays_yes {gs : List (Int × Int)} {id h : Int} {c : Co} {t : List Co} (e : mayR gs id h c = 0) : maysR gs id h (c :: t) = maysR gs id h t := by
  show (if mayR gs id h c ≠ 0 then mayR gs id h c else maysR gs id h t) = _
  rw [e, if_neg (by simp)]
theorem next_co {ts : List Co} {j : Nat} {o : Co} (hj : j < ts.length) (ho : o = ts.getD j C0) : ts.drop j = o :: ts.drop (j + 1) := by
  rw [List.drop_eq_getElem_cons hj, ho, List.getD, List.getElem?_eq_getElem hj]; rfl
/-- The number that is noted of it, or a code. -/
def notedC (ss : List ByteArray) (k f : Int) (rs : List (Int × Int)) (os : List Ou) : Int := if (ttR k f rs os).1 ≠ 0 then (ttR k f rs os).1 else if num ss (str (ttR k f rs os).2) = 0 then 4 else 0
/-- The fee of a transaction with a number; a code. -/
def feeR (gs : List (Int × Int)) (cs : List Co) (k f : Int) (rs : List (Int × Int)) (os : List Ou) (id h : Int) : Int × Int :=
  if rs.all (hasC cs) = false then (4, 0) else if maysR gs id h (inC cs rs) ≠ 0 then (maysR gs id h (inC cs rs), 0) else if k = 2 ∧ memB gs (f, id) = false then (6, 0)
  else if valsR (inC cs rs) - (os.map Ou.v).sum < 0 then (8, 0) else (0, valsR (inC cs rs) - (os.map Ou.v).sum)
def fee2R (ss : List ByteArray) (gs : List (Int × Int)) (cs : List Co) (k f : Int) (rs : List (Int × Int)) (os : List Ou) (h : Int) : Int × Int :=
  if notedC ss k f rs os ≠ 0 then (notedC ss k f rs os, 0) else feeR gs cs k f rs os (num ss (str (ttR k f rs os).2)) h
/-- What checkIn answers. -/
def ckR (ss : List ByteArray) (gs : List (Int × Int)) (cs : List Co) (k f : Int) (rs : List (Int × Int)) (os : List Ou) (h : Int) : Int × Int :=
  if txR k f rs os ≠ 0 then (txR k f rs os, 0) else if inB h 0 999 = false then (3, 0) else fee2R ss gs cs k f rs os h
/-- What CheckTx answers. -/
def checkR (ss : List ByteArray) (gs : List (Int × Int)) (cs : List Co) (k f : Int) (rs : List (Int × Int)) (os : List Ou) (h : Int) : Int × Int :=
  if flt ss gs ≠ 0 then (flt ss gs, 0) else if coinsR cs ≠ 0 then (coinsR cs, 0) else ckR ss gs cs k f rs os h
theorem coin_rule {c : Co} (h : coinR c = 0) : ruleR c.l c.x c.y = 0 ∧ inB c.h 0 999 = true ∧ 1 ≤ c.v ∧ c.v ≤ 1000000 := by
  unfold coinR at h
  by_cases h1 : refB (c.p, c.q) = false ∨ inB c.h 0 999 = false
  · rw [if_pos h1] at h; cases h
  rw [if_neg h1] at h
  unfold outR at h
  by_cases h3 : inB c.v 1 1000000 = false
  · rw [if_pos h3] at h; cases h
  rw [if_neg h3] at h
  have h4 : inB c.v 1 1000000 = true := by simpa using h3
  have h5 : inB c.h 0 999 = true := by cases e : inB c.h 0 999; exact absurd (.inr e) h1; rfl
  simp [inB] at h4
  exact ⟨h, h5, h4.1, h4.2⟩
theorem out_vals {os : List Ou} {m : Nat} (hm : os.length = m) (h4 : m ≤ 4) (h : ∀ j, j < m → 1 ≤ (os.getD j O0).v ∧ (os.getD j O0).v ≤ 1000000) : 0 ≤ (os.map Ou.v).sum ∧ (os.map Ou.v).sum ≤ 4000000 := by
  match os, hm with
  | [], _ => simp
  | [a], e => have h0 := h 0 (by simp at e; omega); simp at h0 ⊢; omega
  | [a, b], e => have h0 := h 0 (by simp at e; omega); have h1 := h 1 (by simp at e; omega); simp at h0 h1 ⊢; omega
  | [a, b, c], e => have h0 := h 0 (by simp at e; omega); have h1 := h 1 (by simp at e; omega); have h2 := h 2 (by simp at e; omega); simp at h0 h1 h2 ⊢; omega
  | [a, b, c, d], e => have h0 := h 0 (by simp at e; omega); have h1 := h 1 (by simp at e; omega); have h2 := h 2 (by simp at e; omega); have h3 := h 3 (by simp at e; omega); simp at h0 h1 h2 h3 ⊢; omega
  | _ :: _ :: _ :: _ :: _ :: _, e => simp at e; omega
/-- A value or an error of one's own. -/
def MayO (w w' : World) (e : Ending) (r : Int) : Prop := Below w.heap.size w w' ∧ ((r = 0 ∧ e = .returned .nilIface) ∨ (r ≠ 0 ∧ ∃ s, e = .returned (.iface 141 (.agg #[.string s, .int .i64 r]))))
def NumO (w w' : World) (e : Ending) (r v : Int) : Prop := Below w.heap.size w w' ∧ ((r = 0 ∧ e = .returned (.tuple #[.int .i64 v, .nilIface])) ∨ (r ≠ 0 ∧ ∃ s, e = .returned (.tuple #[.int .i64 0, .iface 141 (.agg #[.string s, .int .i64 r])])))

set_option maxRecDepth 20000 in
set_option maxHeartbeats 4000000 in
theorem maySpend_any (p q base top kc : Nat) (ka : Option Addr) (ss : List ByteArray) (gs : List (Int × Int)) (op oq ov : Int) (ol : List Int) (ox oy oh : Int) (om : Bool) (id h : Int) (w : World) (hT : TwS w base p ss) (hG : TwG w top q gs) (hI : IAt w ka ol.length ol) (hr : ruleR ol ox oy = 0) (hh : inB oh 0 999 = true) (hh2 : inB h 0 999 = true) (hid : inB id 1 ss.length = true) (hwi : (Lit.int .i64 id).wf = true) :
    Calls Tryz.prog 113 #[.agg #[.pointer (some ⟨p, 0, none⟩), .pointer (some ⟨q, 0, none⟩)], .agg #[.int .i64 op, .int .i64 oq, .int .i64 ov, .slice ka ol.length kc, .int .i64 ox, .int .i64 oy, .int .i64 oh, .bool om], .int .i64 id, .int .i64 h] w fun e w' => MayO w w' e (mayR gs id h ⟨op, oq, ov, ol, ox, oy, oh, om⟩) := by
  obtain ⟨b0, b1, _⟩ := blocks2 w (.cells #[.pointer (some ⟨p, 0, none⟩), .pointer (some ⟨q, 0, none⟩)] 71) (.cells #[.int .i64 op, .int .i64 oq, .int .i64 ov, .slice ka ol.length kc, .int .i64 ox, .int .i64 oy, .int .i64 oh, .bool om] 54)
  have hbx : Below w.heap.size w ((w.alloc (.cells #[.pointer (some ⟨p, 0, none⟩), .pointer (some ⟨q, 0, none⟩)] 71)).alloc (.cells #[.int .i64 op, .int .i64 oq, .int .i64 ov, .slice ka ol.length kc, .int .i64 ox, .int .i64 oy, .int .i64 oh, .bool om] 54)) := below_box2 _ _
  have HBX : Hid (Below w.heap.size w ((w.alloc (.cells #[.pointer (some ⟨p, 0, none⟩), .pointer (some ⟨q, 0, none⟩)] 71)).alloc (.cells #[.int .i64 op, .int .i64 oq, .int .i64 ov, .slice ka ol.length kc, .int .i64 ox, .int .i64 oy, .int .i64 oh, .bool om] 54))) := hbx
  have T0 : Hid (((w.alloc (.cells #[.pointer (some ⟨p, 0, none⟩), .pointer (some ⟨q, 0, none⟩)] 71)).alloc (.cells #[.int .i64 op, .int .i64 oq, .int .i64 ov, .slice ka ol.length kc, .int .i64 ox, .int .i64 oy, .int .i64 oh, .bool om] 54)).heap[w.heap.size]? = some (.cells #[.pointer (some ⟨p, 0, none⟩), .pointer (some ⟨q, 0, none⟩)] 71 (0, 0))) := b0
  have T1 : Hid (((w.alloc (.cells #[.pointer (some ⟨p, 0, none⟩), .pointer (some ⟨q, 0, none⟩)] 71)).alloc (.cells #[.int .i64 op, .int .i64 oq, .int .i64 ov, .slice ka ol.length kc, .int .i64 ox, .int .i64 oy, .int .i64 oh, .bool om] 54)).heap[w.heap.size + 1]? = some (.cells #[.int .i64 op, .int .i64 oq, .int .i64 ov, .slice ka ol.length kc, .int .i64 ox, .int .i64 oy, .int .i64 oh, .bool om] 54 (0, 0))) := b1
  obtain ⟨⟨x0, x1, x2, x3, x4, x5, x6, x7⟩, _⟩ := cells8 b1
  obtain ⟨⟨n1, n3⟩, _, _, hkk⟩ := ruleR_zero rfl hr
  have hripe := iIsRipe_any op oq ov ka ol.length kc ox oy oh h om ((w.alloc (.cells #[.pointer (some ⟨p, 0, none⟩), .pointer (some ⟨q, 0, none⟩)] 71)).alloc (.cells #[.int .i64 op, .int .i64 oq, .int .i64 ov, .slice ka ol.length kc, .int .i64 ox, .int .i64 oy, .int .i64 oh, .bool om] 54))
  have hrb : ripeB oh om h = (!om || decide (oh + 2 ≤ h)) := by unfold ripeB; rw [hh, hh2]; simp
  have HME : ∀ v, Below w.heap.size w v → Calls Tryz.prog 40 #[.agg #[.pointer (some ⟨p, 0, none⟩), .pointer (some ⟨q, 0, none⟩)], .agg #[.slice ka ol.length kc, .int .i64 ox, .int .i64 oy], .int .i64 id, .int .i64 h] v fun e w' => e = .returned (.int .i64 (metIn ss gs ol ox oy id h)) ∧ Below v.heap.size v w' := fun v hv =>
    ruleMetIn_any p q base top ol.length kc ka ss gs ol ox oy id h v (hT.below hv) (hG.below hv) (by omega) (hI.below hv (Nat.le_refl _)) (fun z hz => by have := hkk z hz; exact WalkArith.wf_i64 (by omega)) hwi
  have hme : metIn ss gs ol ox oy id h = if h < oy then 9 else if (cntK ol gs id : Int) < ox then 6 else 0 := by
    unfold metIn
    rw [if_neg (by simp [hr]), if_neg (by simp [hid, hh2])]
  rw [hrb] at hripe
  rw [hme] at HME
  unfold mayR
  obtain ⟨rb, hrb2⟩ : ∃ b, b = (!om || decide (oh + 2 ≤ h)) := ⟨_, rfl⟩
  obtain ⟨r, hr2⟩ : ∃ r, r = (if h < oy then (9 : Int) else if (cntK ol gs id : Int) < ox then 6 else 0) := ⟨_, rfl⟩
  simp only
  rw [← hrb2] at hripe ⊢
  rw [← hr2] at HME ⊢
  clear hrb hme hT hG hI hr hh hh2 hid hwi hkk hbx b0 b1 hrb2 hr2
  cases rb
  · rw [if_pos rfl]
    go_enter Tryz.func113, Tryz.ntmps113
    go_wp2_with (first
      | (go_at_call 11; (with_reducible refine hripe.mono ?_); clear hripe; rintro e w2 ⟨rfl, hb2⟩; have HB2 : Hid (Below w.heap.size w w2) := HBX.out.trans (hb2.mono HBX.out.size); clear hb2 x0 x1 x2 x3 x4 x5 x6 x7))
    go_ret
    exact ⟨HB2.out, .inr ⟨by decide, _, rfl⟩⟩
  · rw [if_neg (by simp)]
    by_cases h0 : r = 0
    · subst h0
      go_enter Tryz.func113, Tryz.ntmps113
      go_wp2_with (first
        | (go_at_call 11; (with_reducible refine hripe.mono ?_); clear hripe; rintro e w2 ⟨rfl, hb2⟩; have HB2 : Hid (Below w.heap.size w w2) := HBX.out.trans (hb2.mono HBX.out.size); have H0 := keepb T0.out hb2; have H1 := keepb T1.out hb2; clear hb2 x0 x1 x2 x3 x4 x5 x6 x7; obtain ⟨⟨x0, x1, x2, x3, x4, x5, x6, x7⟩, _⟩ := cells8 H1.out; obtain ⟨y0, y1⟩ := cells2 H0.out; have hm := HME w2 HB2.out)
        | (go_at_call 40; (with_reducible refine hm.mono ?_); clear hm; rintro e w3 ⟨rfl, hb3⟩; have HB3 : Hid (Below w.heap.size w w3) := HB2.out.trans (hb3.mono HB2.out.size); clear hb3))
      go_ret
      exact ⟨HB3.out, .inl ⟨rfl, rfl⟩⟩
    · go_enter Tryz.func113, Tryz.ntmps113
      go_wp2_with (first
        | (go_at_call 11; (with_reducible refine hripe.mono ?_); clear hripe; rintro e w2 ⟨rfl, hb2⟩; have HB2 : Hid (Below w.heap.size w w2) := HBX.out.trans (hb2.mono HBX.out.size); have H0 := keepb T0.out hb2; have H1 := keepb T1.out hb2; clear hb2 x0 x1 x2 x3 x4 x5 x6 x7; obtain ⟨⟨x0, x1, x2, x3, x4, x5, x6, x7⟩, _⟩ := cells8 H1.out; obtain ⟨y0, y1⟩ := cells2 H0.out; have hm := HME w2 HB2.out)
        | (go_at_call 40; (with_reducible refine hm.mono ?_); clear hm; rintro e w3 ⟨rfl, hb3⟩; have HB3 : Hid (Below w.heap.size w w3) := HB2.out.trans (hb3.mono HB2.out.size); clear hb3))
      go_ret
      exact ⟨HB3.out, .inr ⟨h0, _, rfl⟩⟩

/-- A book and a transaction in their boxes, with the worlds that grow. -/
structure FBx (w v : World) (p q : Nat) (k f : Int) (ia : Option Addr) (n c : Nat) (oa : Option Addr) (m d : Nat) : Prop where
  bk : v.heap[w.heap.size]? = some (.cells #[.pointer (some ⟨p, 0, none⟩), .pointer (some ⟨q, 0, none⟩)] 71 (0, 0))
  tx : v.heap[w.heap.size + 1]? = some (.cells #[.int .i64 k, .int .i64 f, .slice ia n c, .slice oa m d] 32 (0, 0))
  bel : Below w.heap.size w v
section
variable {w v v' : World} {p q : Nat} {k f : Int} {ia oa : Option Addr} {n c m d : Nat}
theorem FBx.start : FBx w ((w.alloc (.cells #[.pointer (some ⟨p, 0, none⟩), .pointer (some ⟨q, 0, none⟩)] 71)).alloc (.cells #[.int .i64 k, .int .i64 f, .slice ia n c, .slice oa m d] 32)) p q k f ia n c oa m d := ⟨(blocks2 w _ _).1, (blocks2 w _ _).2.1, below_box2 _ _⟩
theorem FBx.step (h : FBx w v p q k f ia n c oa m d) (hb : Below v.heap.size v v') : FBx w v' p q k f ia n c oa m d := ⟨(keepb h.bk hb).out, (keepb h.tx hb).out, h.bel.trans (hb.mono h.bel.size)⟩
end
set_option maxRecDepth 20000 in
set_option maxHeartbeats 4000000 in
theorem notedId_any (p q base : Nat) (ss : List ByteArray) (n c m d : Nat) (ia oa : Option Addr) (k f : Int) (rs : List (Int × Int)) (os : List Ou) (w : World) (hT : TwS w base p ss) (hE : Ev w) (hn : n ≤ 1048576) (hm : m ≤ 1048576) (hc1 : n ≤ c) (hc2 : c ≤ maxLen) (hk : ∀ j, j < m → (os.getD j O0).l.length ≤ 1048576) (h : TxAt w ia n oa m rs os) (h0 : txR k f rs os = 0) :
    Calls Tryz.prog 112 #[.agg #[.pointer (some ⟨p, 0, none⟩), .pointer (some ⟨q, 0, none⟩)], .agg #[.int .i64 k, .int .i64 f, .slice ia n c, .slice oa m d]] w fun e w' => NumO w w' e (notedC ss k f rs os) (num ss (str (ttR k f rs os).2) : Nat) := by
  have HW0 : Hid (FBx w ((w.alloc (.cells #[.pointer (some ⟨p, 0, none⟩), .pointer (some ⟨q, 0, none⟩)] 71)).alloc (.cells #[.int .i64 k, .int .i64 f, .slice ia n c, .slice oa m d] 32)) p q k f ia n c oa m d) := FBx.start
  obtain ⟨p0, p1, p2, p3, _⟩ := cells4 HW0.out.tx
  have hlen := tx_len (txOk_of h0.symm) (tx_more h0.symm).1
  have hX := iTxText_any n c m d ia oa k f rs os ((w.alloc (.cells #[.pointer (some ⟨p, 0, none⟩), .pointer (some ⟨q, 0, none⟩)] 71)).alloc (.cells #[.int .i64 k, .int .i64 f, .slice ia n c, .slice oa m d] 32)) hn hm hc1 hc2 hk (h.below HW0.out.bel (Nat.le_refl _)) (hE.below HW0.out.bel (Nat.le_refl _)) (fun _ => hlen)
  have hsz : ((ttR k f rs os).2).length ≤ 300 := by
    unfold ttR
    rw [if_neg (by simp [h0])]
    by_cases h3 : 300 < (txT k f rs os).length
    · rw [if_pos h3]; simp
    · rw [if_neg h3]; exact Nat.le_of_not_lt h3
  unfold notedC
  obtain ⟨cd, hcd⟩ : ∃ x, x = (ttR k f rs os).1 := ⟨_, rfl⟩
  obtain ⟨tt, htt⟩ : ∃ x, x = (ttR k f rs os).2 := ⟨_, rfl⟩
  rw [← hcd, ← htt] at hX ⊢
  rw [← htt] at hsz
  obtain ⟨nn, hnn⟩ : ∃ x, x = num ss (str tt) := ⟨_, rfl⟩
  have HN : ∀ v, Below w.heap.size w v → Calls Tryz.prog 36 #[.pointer (some ⟨p, 0, none⟩), .string (str tt)] v fun e w' => e = .returned (.int .i64 (nn : Nat)) ∧ w' = v := fun v hv => by
    rw [hnn]
    exact numS_tw (str tt) (by show tt.toArray.size ≤ maxLen; unfold maxLen; simp; omega) (hT.below hv)
  rw [← hnn]
  clear hcd htt hnn hT hE hk h h0 hlen hsz
  by_cases h1 : cd = 0
  · subst h1
    rw [if_neg (by simp)]
    by_cases h2 : nn = 0
    · subst h2
      rw [if_pos rfl]
      go_enter Tryz.func112, Tryz.ntmps112
      go_wp2_with (first
      | (go_at_call 10; (with_reducible refine hX.mono ?_); clear hX; rintro e w2 ⟨rfl, hb2⟩; have HW2 : Hid (FBx w (w2.alloc (.cells #[.int .i64 0, .string (str tt)] 43)) p q k f ia n c oa m d) := (HW0.out.step hb2).step (below_box _); clear hb2 p0 p1 p2 p3; obtain ⟨q0, q1⟩ := cells2 (heap_alloc_new w2 (.cells #[.int .i64 0, .string (str tt)] 43)); obtain ⟨y0, y1⟩ := cells2 HW2.out.bk; have hN := HN (w2.alloc (.cells #[.int .i64 0, .string (str tt)] 43)) HW2.out.bel)
      | (go_at_call 36; (with_reducible refine hN.mono ?_); clear hN; rintro e w3 ⟨rfl, hw3⟩; have hw4 := hw3.symm; subst hw4))
      exact bodyPost_ret (v := .tuple #[.int .i64 0, .iface 141 (.agg #[.string ⟨#[116, 104, 101, 32, 110, 111, 116, 101, 32, 111, 102, 32, 116, 104, 101, 32, 116, 101, 120, 116]⟩, .int .i64 4])]) (by simp [results, Tryz.results112, go_sem]) rfl ⟨HW2.out.bel, .inr ⟨by decide, _, rfl⟩⟩
    · rw [if_neg h2]
      have h3 : ¬ (nn : Int) = 0 := by omega
      have h4 : ((nn : Int) == 0) = false := by simpa using h3
      go_enter Tryz.func112, Tryz.ntmps112
      go_wp2_with (first
      | (go_at_call 10; (with_reducible refine hX.mono ?_); clear hX; rintro e w2 ⟨rfl, hb2⟩; have HW2 : Hid (FBx w (w2.alloc (.cells #[.int .i64 0, .string (str tt)] 43)) p q k f ia n c oa m d) := (HW0.out.step hb2).step (below_box _); clear hb2 p0 p1 p2 p3; obtain ⟨q0, q1⟩ := cells2 (heap_alloc_new w2 (.cells #[.int .i64 0, .string (str tt)] 43)); obtain ⟨y0, y1⟩ := cells2 HW2.out.bk; have hN := HN (w2.alloc (.cells #[.int .i64 0, .string (str tt)] 43)) HW2.out.bel)
      | (go_at_call 36; (with_reducible refine hN.mono ?_); clear hN; rintro e w3 ⟨rfl, hw3⟩; have hw4 := hw3.symm; subst hw4))
      exact bodyPost_ret (v := .tuple #[.int .i64 nn, .nilIface]) (by simp [results, Tryz.results112, go_sem]) rfl ⟨HW2.out.bel, .inl ⟨rfl, rfl⟩⟩
  · rw [if_pos h1]
    go_enter Tryz.func112, Tryz.ntmps112
    go_wp2_with (first
      | (go_at_call 10; (with_reducible refine hX.mono ?_); clear hX; rintro e w2 ⟨rfl, hb2⟩; have HW2 : Hid (FBx w (w2.alloc (.cells #[.int .i64 cd, .string (str tt)] 43)) p q k f ia n c oa m d) := (HW0.out.step hb2).step (below_box _); clear hb2 p0 p1 p2 p3; obtain ⟨q0, q1⟩ := cells2 (heap_alloc_new w2 (.cells #[.int .i64 cd, .string (str tt)] 43)); obtain ⟨y0, y1⟩ := cells2 HW2.out.bk))
    go_quiet (fail)
    go_wp2
    exact bodyPost_ret (v := .tuple #[.int .i64 0, .iface 141 (.agg #[.string ⟨#[97, 32, 116, 101, 120, 116, 32, 116, 104, 97, 116, 32, 99, 97, 110, 32, 98, 101, 32, 110, 111, 116, 101, 100]⟩, .int .i64 cd])]) (by simp [results, Tryz.results112, go_sem]) rfl ⟨HW2.out.bel.trans ((Joins.below_draws _ _ _).mono HW2.out.bel.size), .inr ⟨h1, _, rfl⟩⟩

end Go.Proofs.YtagokfoimokniaaGreatDoor
