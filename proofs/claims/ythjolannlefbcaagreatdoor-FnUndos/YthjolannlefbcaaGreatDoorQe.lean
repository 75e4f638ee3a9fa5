/- Is there anything against it that a transaction is taken back? -/
import Derived.Test.YthjolannlefbcaaGreatDoorQd
import Derived.Test.YthjolannlefbcaaGreatDoorJn3
import Derived.Test.YthjolannlefbcaaGreatDoorJn7
namespace Go.Proofs.YthjolannlefbcaaGreatDoor
open Go.RowKit Go.Maps Go.WideMaps

def undoF (cs : List Co) (k f : Int) (rs : List (Int × Int)) (os : List Ou) (id : Int) (sp : List Co) : Int :=
  if txR k f rs os ≠ 0 then txR k f rs os else if inB id 1 60 = false then 3 else if justB sp rs = false then 1 else if madeB (ofC cs id) os = false then 4
  else if rs.any (hasC cs) = true then 7 else if 40 < (offC cs id).length + sp.length then 2 else 0
theorem undoR_eq (cs : List Co) (k f : Int) (rs : List (Int × Int)) (os : List Ou) (id : Int) (sp : List Co) : undoR cs k f rs os id sp =
    if coinsR cs ≠ 0 then (coinsR cs, []) else if coinsR sp ≠ 0 then (coinsR sp, []) else if undoF cs k f rs os id sp ≠ 0 then (undoF cs k f rs os id sp, []) else (0, addCs (offC cs id) sp) := by
  unfold undoR undoF
  by_cases h1 : coinsR cs ≠ 0
  · rw [if_pos h1, if_pos h1]
  rw [if_neg h1, if_neg h1]
  by_cases h2 : coinsR sp ≠ 0
  · rw [if_pos h2, if_pos h2]
  rw [if_neg h2, if_neg h2]
  by_cases h3 : txR k f rs os ≠ 0
  · rw [if_pos h3, if_pos h3, if_pos h3]
  rw [if_neg h3, if_neg h3]
  by_cases h4 : inB id 1 60 = false
  · rw [if_pos h4, if_pos h4]; rfl
  rw [if_neg h4, if_neg h4]
  by_cases h5 : justB sp rs = false
  · rw [if_pos h5, if_pos h5]; rfl
  rw [if_neg h5, if_neg h5]
  by_cases h6 : madeB (ofC cs id) os = false
  · rw [if_pos h6, if_pos h6]; rfl
  rw [if_neg h6, if_neg h6]
  by_cases h7 : rs.any (hasC cs) = true
  · rw [if_pos h7, if_pos h7]; rfl
  rw [if_neg h7, if_neg h7]
  by_cases h8 : 40 < (offC cs id).length + sp.length
  · rw [if_pos h8, if_pos h8]; rfl
  rw [if_neg h8, if_neg h8]; rfl

theorem hasC_mem {a b : List Co} (h : ∀ c, c ∈ a ↔ c ∈ b) (r : Int × Int) : hasC a r = hasC b r := by
  rw [Bool.eq_iff_iff]
  unfold hasC
  rw [List.any_eq_true, List.any_eq_true]
  constructor
  · rintro ⟨c, h1, h2⟩; exact ⟨c, (h c).1 h1, h2⟩
  · rintro ⟨c, h1, h2⟩; exact ⟨c, (h c).2 h1, h2⟩
theorem len_mem {ps : List (Co × Value)} {cs : List Co} (hr : ps.Pairwise fun x y => refOf x ≠ refOf y) (hc : RiseC cs) (h : ∀ c, c ∈ cs ↔ c ∈ ps.map (·.1)) : ps.length = cs.length := by
  have h1 : (ps.map refOf).Nodup := by unfold List.Nodup; rw [List.pairwise_map]; exact hr
  have a := sub_length (ps.map refOf) (refsC cs) h1 fun r hr => by
    obtain ⟨x, hx, rfl⟩ := List.mem_map.1 hr
    exact List.mem_map.2 ⟨x.1, (h x.1).2 (List.mem_map.2 ⟨x, hx, rfl⟩), rfl⟩
  have b := sub_length (refsC cs) (ps.map refOf) (refs_nodup hc) fun r hr => by
    obtain ⟨c, hc, rfl⟩ := List.mem_map.1 hr
    obtain ⟨x, hx, rfl⟩ := List.mem_map.1 ((h c).1 hc)
    exact List.mem_map.2 ⟨x, hx, rfl⟩
  simp [refsC] at a b
  omega
theorem just_mem {a b : List Co} {rs : List (Int × Int)} (h : ∀ c, c ∈ a ↔ c ∈ b) (hl : a.length = b.length) : justB a rs = justB b rs := by
  unfold justB
  rw [hl]
  congr 1
  exact List.all_congr rfl fun r => hasC_mem h r
theorem any_yes {rs : List (Int × Int)} {n t : Nat} {f : Int × Int → Bool} (hn : rs.length = n) (ht : t < n) (h : f (rs.getD t G0) = true) : rs.any f = true := by
  rw [List.any_eq_true]
  exact ⟨_, ref_mem hn ht rfl, h⟩
theorem any_no {rs : List (Int × Int)} {n : Nat} {f : Int × Int → Bool} (hn : rs.length = n) (h : ∀ t, t < n → f (rs.getD t G0) = false) : rs.any f = false := by
  rw [List.any_eq_false]
  intro x hx
  obtain ⟨t, ht, rfl⟩ := List.getElem_of_mem hx
  have := h t (by omega)
  rw [List.getD, List.getElem?_eq_getElem ht] at this
  rw [show rs[t] = (some rs[t]).getD G0 from rfl, this]
  exact Bool.false_ne_true

/-- A purse in any order, and the coins that it holds, rising. -/
structure Holds (w : World) (lo B : Nat) (ps : List (Co × Value)) (cs : List Co) : Prop where
  pu : Pu w lo B ps
  rise : RiseC cs
  mem : ∀ c, c ∈ cs ↔ c ∈ ps.map (·.1)
  good : ∀ c ∈ cs, c.l.length ≤ 1048576
  few : cs.length ≤ 500
theorem Holds.len {w : World} {lo B : Nat} {ps : List (Co × Value)} {cs : List Co} (h : Holds w lo B ps cs) : ps.length = cs.length := len_mem h.pu.refs h.rise h.mem
theorem Holds.below {w w' : World} {lo B : Nat} {ps : List (Co × Value)} {cs : List Co} (h : Holds w lo B ps cs) (hb : Below w.heap.size w w') : Holds w' lo B ps cs := ⟨h.pu.below hb, h.rise, h.mem, h.good, h.few⟩

set_option maxRecDepth 20000 in
set_option maxHeartbeats 4000000 in
theorem undoFault_any (B lo B2 lo2 : Nat) (ps qs : List (Co × Value)) (cs sp : List Co) (n c m d : Nat) (ia oa : Option Addr) (k f : Int) (rs : List (Int × Int)) (os : List Ou) (id : Int) (w : World) (hH : Holds w lo B ps cs) (hS : Holds w lo2 B2 qs sp) (hlo : lo ≤ w.heap.size) (_hlo2 : lo2 ≤ w.heap.size)
    (hn : n ≤ 1048576) (hm : m ≤ 1048576) (hc1 : n ≤ c) (hc2 : c ≤ maxLen) (hk : ∀ j, j < m → (os.getD j O0).l.length ≤ 1048576) (h : TxAt w ia n oa m rs os) :
    Calls Tryz.prog 52 #[.map (some B), .agg #[.int .i64 k, .int .i64 f, .slice ia n c, .slice oa m d], .int .i64 id, .map (some B2)] w fun e w' => e = .returned (.int .i64 (undoF cs k f rs os id sp)) ∧ Below w.heap.size w w' := by
  have hbx : Below w.heap.size w (w.alloc (.cells #[.int .i64 k, .int .i64 f, .slice ia n c, .slice oa m d] 28)) := below_box _
  have hT := iTxFault_any n c m d ia oa k f rs os (w.alloc (.cells #[.int .i64 k, .int .i64 f, .slice ia n c, .slice oa m d] 28)) hn hm hc1 hc2 hk (h.below hbx (Nat.le_refl _))
  have B0 : Hid (TBx w (w.alloc (.cells #[.int .i64 k, .int .i64 f, .slice ia n c, .slice oa m d] 28)) k f ia n c oa m d 28) := TBx.start
  obtain ⟨p0, p1, p2, p3, _⟩ := cells4 B0.out.box
  obtain ⟨u, hu⟩ : ∃ u, u = undoF cs k f rs os id sp := ⟨_, rfl⟩
  rw [← hu]
  unfold undoF at hu
  obtain ⟨cd, hcd⟩ : ∃ u, u = txR k f rs os := ⟨_, rfl⟩
  rw [← hcd] at hT hu
  by_cases h1 : cd = 0
  · subst h1
    obtain ⟨hrb, hrd, hr4, ho4⟩ := tx_facts hcd.symm
    rw [if_neg (by simp)] at hu
    obtain ⟨kb, hkb⟩ : ∃ b, b = inB id 1 60 := ⟨_, rfl⟩
    have HId : ∀ v, Calls Tryz.prog 89 #[.int .i64 id] v fun e w' => e = .returned (.bool kb) ∧ w' = v := fun v => by rw [hkb]; exact isTxId_any _ v
    rw [← hkb] at hu
    have HG : Hid (GAt w ia n rs) := h.r
    have HN : Hid (rs.length = n) := h.r.1
    rw [h.r.1] at hr4
    cases kb
    · rw [if_pos rfl] at hu
      subst hu
      clear hcd h hk hkb hH hS hbx hrb hrd HG HN
      go_enter Tryz.func52, Tryz.ntmps52
      go_wp2_with (first
      | (go_at_call 25; (with_reducible refine hT.mono ?_); clear hT; rintro e w2 ⟨rfl, hb2⟩; have B2 : Hid (TBx w w2 k f ia n c oa m d 28) := B0.out.step hb2; obtain ⟨p0, p1, p2, p3, _⟩ := cells4 B2.out.box; clear hb2; have hI := HId w2)
      | (go_at_call 89; (with_reducible refine hI.mono ?_); clear hI; rintro e w3 ⟨rfl, hw3⟩; have hw4 := hw3.symm; subst hw4))
      go_ret
      exact ⟨rfl, B2.out.bel⟩
    · rw [if_neg (by simp)] at hu
      obtain ⟨jb, hjb⟩ : ∃ b, b = justB sp rs := ⟨_, rfl⟩
      have HJ : ∀ v, TBx w v k f ia n c oa m d 28 → Calls Tryz.prog 90 #[.map (some B2), .slice ia n c] v fun e w' => e = .returned (.bool jb) ∧ Below v.heap.size v w' := fun v hv => by
        rw [hjb, ← just_mem (a := qs.map (·.1)) (fun c => (hS.mem c).symm) (by rw [List.length_map]; exact hS.len)]
        exact isJust_any n c B2 lo2 ia rs qs v (by omega) (by have := hS.len; have := hS.few; omega) (h.r.below hv.bel (Nat.le_refl _)) hrb (hS.pu.below hv.bel)
      rw [← hjb] at hu
      cases jb
      · rw [if_pos rfl] at hu
        subst hu
        clear hcd h hk hkb hH hS hbx hrb hrd HG HN hjb
        go_enter Tryz.func52, Tryz.ntmps52
        go_wp2_with (first
      | (go_at_call 25; (with_reducible refine hT.mono ?_); clear hT; rintro e w2 ⟨rfl, hb2⟩; have B2 : Hid (TBx w w2 k f ia n c oa m d 28) := B0.out.step hb2; obtain ⟨p0, p1, p2, p3, _⟩ := cells4 B2.out.box; clear hb2; have hI := HId w2)
      | (go_at_call 89; (with_reducible refine hI.mono ?_); clear hI; rintro e w3 ⟨rfl, hw3⟩; have hw4 := hw3.symm; subst hw4; have hJ := HJ w2 B2.out)
      | (go_at_call 90; (with_reducible refine hJ.mono ?_); clear hJ; rintro e w4 ⟨rfl, hb4⟩; have B4 : Hid (TBx w w4 k f ia n c oa m d 28) := B2.out.step hb4; clear p0 p1 p2 p3; obtain ⟨p0, p1, p2, p3, _⟩ := cells4 B4.out.box; clear hb4))
        go_ret
        exact ⟨rfl, B4.out.bel⟩
      · rw [if_neg (by simp)] at hu
        obtain ⟨mb, hmb⟩ : ∃ b, b = madeB (ofC cs id) os := ⟨_, rfl⟩
        obtain ⟨ms, hms⟩ : ∃ l, l = ofC cs id := ⟨_, rfl⟩
        have HMd : ∀ v, TBx w v k f ia n c oa m d 28 → Calls Tryz.prog 53 #[.map (some B), .int .i64 id] v fun e w' => ∃ r, e = .returned r ∧ Hid ((∃ kv, COwn w' lo w'.heap.size r ms.length (fun j => ms.getD j C0) kv) ∧ Below v.heap.size v w') := fun v hv => by
          rw [hms]
          exact madeBy_any B lo id ps cs v (hH.pu.below hv.bel) (Nat.le_trans hlo hv.bel.size) (by have := hH.len; have := hH.few; omega) hH.rise hH.mem
        have hml : ∀ j, j < ms.length → (ms.getD j C0).l.length ≤ 1048576 := fun j hj => by
          have := getC_mem hj
          rw [hms] at this
          rw [hms]
          exact hH.good _ (List.mem_filter.1 this).1
        have hmle : ms.length ≤ ps.length := by rw [hH.len, hms]; exact List.length_filter_le _ _
        have HAr : ∀ v va vc, TBx w v k f ia n c oa m d 28 → (∃ kv, COwn v lo v.heap.size (.slice va ms.length vc) ms.length (fun j => ms.getD j C0) kv) → Calls Tryz.prog 91 #[.slice va ms.length vc, .slice oa m d] v fun e w' => e = .returned (.bool mb) ∧ Below v.heap.size v w' := fun v va vc hv ⟨kv, hO⟩ => by
          rw [hmb, ← hms]
          exact areMadeOf_any ms.length vc m d va oa ms os v (by have := hH.len; have := hH.few; omega) hm hml hk (own_at2 hO rfl hml) (h.o.below hv.bel (Nat.le_refl _))
        rw [← hmb] at hu
        cases mb
        · rw [if_pos rfl] at hu
          subst hu
          clear hcd h hk hkb hH hS hbx hrb hrd HG HN hjb hmb hml hms hmle
          go_enter Tryz.func52, Tryz.ntmps52
          go_wp2_with (first
      | (go_at_call 25; (with_reducible refine hT.mono ?_); clear hT; rintro e w2 ⟨rfl, hb2⟩; have B2 : Hid (TBx w w2 k f ia n c oa m d 28) := B0.out.step hb2; obtain ⟨p0, p1, p2, p3, _⟩ := cells4 B2.out.box; clear hb2; have hI := HId w2)
      | (go_at_call 89; (with_reducible refine hI.mono ?_); clear hI; rintro e w3 ⟨rfl, hw3⟩; have hw4 := hw3.symm; subst hw4; have hJ := HJ w2 B2.out)
      | (go_at_call 90; (with_reducible refine hJ.mono ?_); clear hJ; rintro e w4 ⟨rfl, hb4⟩; have B4 : Hid (TBx w w4 k f ia n c oa m d 28) := B2.out.step hb4; clear p0 p1 p2 p3; obtain ⟨p0, p1, p2, p3, _⟩ := cells4 B4.out.box; clear hb4; have hM := HMd w4 B4.out)
      | (go_at_call 53; (with_reducible refine hM.mono ?_); clear hM; rintro e w5 ⟨v, rfl, HS⟩; obtain ⟨va, vc, hv⟩ := own_slice3 HS.out.1; subst hv; have B5 : Hid (TBx w w5 k f ia n c oa m d 28) := B4.out.step HS.out.2; have hA := HAr w5 va vc B5.out HS.out.1; clear p0 p1 p2 p3; obtain ⟨p0, p1, p2, p3, _⟩ := cells4 B5.out.box)
      | (go_at_call 91; (with_reducible refine hA.mono ?_); clear hA; rintro e w6 ⟨rfl, hb6⟩; have B6 : Hid (TBx w w6 k f ia n c oa m d 28) := B5.out.step hb6; clear p0 p1 p2 p3; obtain ⟨p0, p1, p2, p3, _⟩ := cells4 B6.out.box; clear hb6))
          go_ret
          exact ⟨rfl, B6.out.bel⟩
        · rw [if_neg (by simp)] at hu
          have HU : Hid (u = if rs.any (hasC cs) = true then 7 else if 40 < (offC cs id).length + sp.length then 2 else 0) := hu
          obtain ⟨pd, hpd⟩ : ∃ q : Int × Int → Bool, q = hasC cs := ⟨_, rfl⟩
          have HPD : Hid (pd = hasC cs) := hpd
          have HCA : Hid (∀ v (p q : Int), Below w.heap.size w v → (p, q) ∈ rs → Calls Tryz.prog 92 #[.map (some B), .agg #[.int .i64 p, .int .i64 q]] v fun e w' => e = .returned (.bool (!pd (p, q))) ∧ Below v.heap.size v w') := fun v p q hv hr => by
            rw [hpd, hasC_mem hH.mem]
            exact lacks_any B lo p q ps v (hH.pu.below hv) (ref_wf (hrb _ hr)).1 (ref_wf (hrb _ hr)).2
          have HHP : Hid (Holds w lo B ps cs) := hH
          have HHS : Hid (Holds w lo2 B2 qs sp) := hS
          have HMS : Hid (ms.length + (offC cs id).length = cs.length) := by show _ = _; rw [hms]; exact of_off cs id
          have hfp : ps.length ≤ 500 := by have := hH.len; have := hH.few; omega
          have hfq : qs.length ≤ 500 := by have := hS.len; have := hS.few; omega
          clear hcd h hk hkb hH hS hbx hrb hrd hjb hmb hml hms hu hpd
          go_enter Tryz.func52, Tryz.ntmps52
          go_wp2_with (first
      | (go_at_call 25; (with_reducible refine hT.mono ?_); clear hT; rintro e w2 ⟨rfl, hb2⟩; have B2 : Hid (TBx w w2 k f ia n c oa m d 28) := B0.out.step hb2; obtain ⟨p0, p1, p2, p3, _⟩ := cells4 B2.out.box; clear hb2; have hI := HId w2)
      | (go_at_call 89; (with_reducible refine hI.mono ?_); clear hI; rintro e w3 ⟨rfl, hw3⟩; have hw4 := hw3.symm; subst hw4; have hJ := HJ w2 B2.out)
      | (go_at_call 90; (with_reducible refine hJ.mono ?_); clear hJ; rintro e w4 ⟨rfl, hb4⟩; have B4 : Hid (TBx w w4 k f ia n c oa m d 28) := B2.out.step hb4; clear p0 p1 p2 p3; obtain ⟨p0, p1, p2, p3, _⟩ := cells4 B4.out.box; clear hb4; have hM := HMd w4 B4.out)
      | (go_at_call 53; (with_reducible refine hM.mono ?_); clear hM; rintro e w5 ⟨v, rfl, HS⟩; obtain ⟨va, vc, hv⟩ := own_slice3 HS.out.1; subst hv; have B5 : Hid (TBx w w5 k f ia n c oa m d 28) := B4.out.step HS.out.2; have hA := HAr w5 va vc B5.out HS.out.1; clear p0 p1 p2 p3; obtain ⟨p0, p1, p2, p3, _⟩ := cells4 B5.out.box)
      | (go_at_call 91; (with_reducible refine hA.mono ?_); clear hA; rintro e w6 ⟨rfl, hb6⟩; have B6 : Hid (TBx w w6 k f ia n c oa m d 28) := B5.out.step hb6; clear p0 p1 p2 p3; obtain ⟨p0, p1, p2, p3, _⟩ := cells4 B6.out.box; clear hb6))
          go_loopw [37] (fun i wr => ∃ j : Nat, j ≤ n ∧ i = .int .i64 j ∧ Below w.heap.size w wr ∧ Hid (∀ t, t < j → pd (rs.getD t G0) = false)) (fun i _ => n - (intOf i).toNat)
          case atStart => exact ⟨0, Nat.zero_le _, rfl, B6.out.bel, fun t ht => by omega⟩
          case round =>
            obtain ⟨j, hj, rfl, hbel, HI⟩ := hrel
            clear p0 p1 p2 p3
            by_cases hlt : j < n
            · rcases HG.out.2 with h0 | ⟨b, off, e0, l0, d0⟩
              · omega
              subst e0
              obtain ⟨o, ho⟩ : ∃ o, o = rs.getD j G0 := ⟨_, rfl⟩
              obtain ⟨y0, y1⟩ := d0 j hlt
              rw [← ho] at y0 y1
              have x0 := (hbel.cell (p := ⟨b, off + j * 2, none⟩) l0).trans y0
              have x1 := (hbel.cell (p := ⟨b, off + j * 2 + 1, none⟩) l0).trans y1
              have hmem := ref_mem HN.out hlt ho
              have HS2 : Hid (o = rs.getD j G0) := ho
              obtain ⟨op, oq⟩ := o
              simp only at x0 x1
              have hb7 : Below w.heap.size w (wr.alloc (.cells #[.int .i64 op, .int .i64 oq] 38)) := hbel.trans ((below_box _).mono hbel.size)
              have hca := HCA.out (wr.alloc (.cells #[.int .i64 op, .int .i64 oq] 38)) op oq hb7 hmem
              have HB7 : Hid (Below w.heap.size w (wr.alloc (.cells #[.int .i64 op, .int .i64 oq] 38))) := hb7
              obtain ⟨q, hq⟩ : ∃ b, b = pd (op, oq) := ⟨_, rfl⟩
              rw [← hq] at hca
              have HQ : Hid (q = pd (op, oq)) := hq
              have hki : (j : Int) < (n : Int) := by omega
              clear d0 ho hq y0 y1 hmem hb7
              cases q
              · have HIN : Hid (∀ t, t < j + 1 → pd (rs.getD t G0) = false) := fun t ht => by
                  rcases Nat.lt_or_ge t j with h1 | h1
                  · exact HI.out t h1
                  · obtain rfl : t = j := by omega
                    rw [← HS2.out]; exact HQ.out.symm
                go_wp2_with (first | (go_at_call 92; (with_reducible refine hca.mono ?_); clear hca; rintro e w8 ⟨rfl, hb8⟩))
                go_roundw
                case rel => exact ⟨j + 1, by omega, by go_num, HB7.out.trans (hb8.mono HB7.out.size), HIN⟩
                case measure => simp [intOf]; omega
              · have HFI : Hid (u = 7) := by show _ = _; rw [HU.out, if_pos (any_yes HN.out hlt (by rw [← HS2.out, ← HPD.out]; exact HQ.out.symm))]
                go_wp2_with (first | (go_at_call 92; (with_reducible refine hca.mono ?_); clear hca; rintro e w8 ⟨rfl, hb8⟩))
                go_ret
                exact ⟨by rw [HFI.out]; rfl, HB7.out.trans (hb8.mono HB7.out.size)⟩
            · have hlen := (HHP.out.pu.below hbel).len
              have hlen2 := (HHS.out.pu.below hbel).len
              have hu2 : u = if 40 < (offC cs id).length + sp.length then 2 else 0 := by rw [HU.out, if_neg (by rw [any_no HN.out (fun t ht => by rw [← HPD.out]; exact HI.out t (by omega))]; exact Bool.false_ne_true)]
              have e1 := HHP.out.len
              have e2 := HHS.out.len
              have e3 := HMS.out
              have hw1 : IntKind.i64.wrap ((ps.length : Int) - (ms.length : Int)) = (ps.length : Int) - (ms.length : Int) := IntWalk.i64_in _ (by omega)
              have hw2 : IntKind.i64.wrap ((ps.length : Int) - (ms.length : Int) + (qs.length : Int)) = (ps.length : Int) - (ms.length : Int) + (qs.length : Int) := IntWalk.i64_in _ (by omega)
              have hki : ¬ (j : Int) < (n : Int) := by omega
              by_cases h40 : 40 < (offC cs id).length + sp.length
              · have HFI : Hid (u = 2) := by show _ = _; rw [hu2, if_pos h40]
                have hgt : (40 : Int) < (ps.length : Int) - (ms.length : Int) + (qs.length : Int) := by omega
                clear hu2 h40 e1 e2 e3
                go_wp2
                go_ret
                exact ⟨by rw [HFI.out]; rfl, hbel⟩
              · have HFI : Hid (u = 0) := by show _ = _; rw [hu2, if_neg h40]
                have hgt : ¬ (40 : Int) < (ps.length : Int) - (ms.length : Int) + (qs.length : Int) := by omega
                clear hu2 h40 e1 e2 e3
                go_wp2
                go_ret
                exact ⟨by rw [HFI.out]; rfl, hbel⟩
  · rw [if_pos h1] at hu
    subst hu
    clear hcd h hk hH hS hbx
    go_enter Tryz.func52, Tryz.ntmps52
    go_wp2_with (first
      | (go_at_call 25; (with_reducible refine hT.mono ?_); clear hT; rintro e w2 ⟨rfl, hb2⟩; have B2 : Hid (TBx w w2 k f ia n c oa m d 28) := B0.out.step hb2; obtain ⟨p0, p1, p2, p3, _⟩ := cells4 B2.out.box; clear hb2))
    go_ret
    exact ⟨rfl, B2.out.bel⟩

end Go.Proofs.YthjolannlefbcaaGreatDoor
