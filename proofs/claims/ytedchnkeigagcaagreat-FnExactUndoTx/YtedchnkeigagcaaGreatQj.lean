/- The specification takes a transaction back: what it made is gone, what it spent is there again. -/
import Derived.Test.YtedchnkeigagcaaGreatJB
import Derived.Test.YtedchnkeigagcaaGreatDu
namespace Go.Proofs.YtedchnkeigagcaaGreat
open Go.RowKit Go.Maps Go.WideMaps

theorem addCs_take {cs sp : List Co} {n j : Nat} {o : Co} (hn : sp.length = n) (hlt : j < n) (ho : o = sp.getD j C0) : addCs cs (sp.take (j + 1)) = addC (addCs cs (sp.take j)) o := by
  rw [take_oneC hn hlt ho]
  unfold addCs
  rw [List.foldl_append]
  rfl
theorem addC_cnt {x : Co} : ∀ {ts : List Co}, (addC ts x).length = ts.length + 1
  | [] => rfl
  | a :: l => by
    unfold addC
    by_cases e : cmpR (a.p, a.q) (x.p, x.q) < 0
    · rw [if_pos e, List.length_cons, addC_cnt, List.length_cons]
    · rw [if_neg e]; rfl
theorem addCs_cnt : ∀ (xs cs : List Co), (addCs cs xs).length = cs.length + xs.length
  | [], cs => rfl
  | x :: xs, cs => by
    show (addCs (addC cs x) xs).length = _
    rw [addCs_cnt, addC_cnt, List.length_cons]
    omega
/-- In the midst of putting back. -/
def BackM (wr : World) (lo g m uc : Nat) (ts : List Co) (kv kv2 : Nat → Value) (n j : Nat) : Prop :=
  ∃ kz, COwn wr lo wr.heap.size (.slice (some ⟨g, 0, none⟩) m uc) m (fun t => ts.getD t C0) kz ∧ ∀ t, t < m → (∃ i, i < n ∧ kz t = kv i) ∨ ∃ i, i < j ∧ kz t = kv2 i
theorem own_key {w : World} {lo : Nat} {u : Value} {l : List Int} (h : w.ownsRow lo 2 1 u l.length (ints l)) : ∃ a c, u = .slice a l.length c := by
  rcases h.2 with ⟨e1, e2⟩ | ⟨g, cap, cur, e1, _⟩
  · exact ⟨none, 0, by rw [e1, e2]⟩
  · exact ⟨_, cap, e1⟩

set_option maxRecDepth 20000 in
set_option maxHeartbeats 4000000 in
theorem l5Back_any (n c n2 c2 lo hi hi2 : Nat) (a a2 : Option Addr) (cs sp : List Co) (kv kv2 : Nat → Value) (id : Int) (w : World) (hl : cs.length = n) (hn : n ≤ 40) (hok : ∀ c ∈ cs, coinR c = 0) (hO : COwn w lo hi (.slice a n c) n (fun j => cs.getD j C0) kv) (hl2 : sp.length = n2) (hn2 : n2 ≤ 40) (hok2 : ∀ c ∈ sp, coinR c = 0) (hS : COwn w lo hi2 (.slice a2 n2 c2) n2 (fun j => sp.getD j C0) kv2) (hlo : lo ≤ w.heap.size)
    (hx : ∀ i, i < n → ∀ j, j < n2 → ∀ b, (kv i).ownBlock = some b → (kv2 j).ownBlock ≠ some b) :
    Calls Tryz.prog 26 #[.slice a n c, .int .i64 id, .slice a2 n2 c2] w fun e w' => ∃ va vc, e = .returned (.slice va (addCs (offC cs id) sp).length vc) ∧ Hid (∃ kv, COwn w' w.heap.size w'.heap.size (.slice va (addCs (offC cs id) sp).length vc) (addCs (offC cs id) sp).length (fun j => (addCs (offC cs id) sp).getD j C0) kv) ∧ Below w.heap.size w w' := by
  have HL : Hid (cs.length = n) := hl
  have HOK : Hid (∀ c ∈ cs, coinR c = 0) := hok
  have HO : Hid (COwn w lo hi (.slice a n c) n (fun j => cs.getD j C0) kv) := hO
  have HL2 : Hid (sp.length = n2) := hl2
  have HOK2 : Hid (∀ c ∈ sp, coinR c = 0) := hok2
  have HS2 : Hid (COwn w lo hi2 (.slice a2 n2 c2) n2 (fun j => sp.getD j C0) kv2) := hS
  have HX : Hid (∀ i, i < n → ∀ j, j < n2 → ∀ b, (kv i).ownBlock = some b → (kv2 j).ownBlock ≠ some b) := hx
  have HE : Hid ((w.alloc (.cells #[] 72)).heap[w.heap.size]? = some (.cells #[] 72 (0, 0))) := heap_alloc_new _ _
  obtain ⟨pd, hpd⟩ : ∃ p : Co → Bool, p = fun c => decide (c.p ≠ id) := ⟨_, rfl⟩
  have HPD : Hid (pd = fun c => decide (c.p ≠ id)) := hpd
  clear hl hok hO hpd hl2 hok2 hS hx
  go_enter Tryz.func26, Tryz.ntmps26
  go_wp2
  go_loopw [7, 8] (fun v i wr => ∃ (j m g uc : Nat), j ≤ n ∧ i = .int .i64 j ∧ v = .slice (some ⟨g, 0, none⟩) m uc ∧ Hid (m = ((cs.take j).filter pd).length) ∧ Hid (SelM wr w.heap.size lo (.slice (some ⟨g, 0, none⟩) m uc) cs kv pd j) ∧ Below w.heap.size w wr) (fun _ i _ => n - (intOf i).toNat)
  case atStart => exact ⟨0, 0, w.heap.size, 0, Nat.zero_le _, rfl, rfl, rfl, SelM.start HE.out (Nat.le_refl _), below_box _⟩
  case round =>
    obtain ⟨j, m, g, uc, hj, rfl, rfl, HM, HS, hbel⟩ := hrel
    by_cases hlt : j < n
    · have hOr := HO.out.below hbel
      obtain ⟨ga, ug, eg⟩ : ∃ g ug, (Value.slice a n c) = .slice (some ⟨g, 0, none⟩) n ug := by
        obtain ⟨xs, h1, _⟩ := hOr.row
        rcases h1.2 with ⟨e1, e2⟩ | ⟨g, cp, cur, e1, _⟩
        · omega
        · exact ⟨g, cp, e1⟩
      cases eg
      obtain ⟨o, ho⟩ : ∃ o, o = cs.getD j C0 := ⟨_, rfl⟩
      have hrow := (hOr.keys j hlt).1
      obtain ⟨ka, kc, hkv⟩ := own_key hrow
      obtain ⟨kn, hkn⟩ : ∃ k, k = (cs.getD j C0).l.length := ⟨_, rfl⟩
      rw [← hkn] at hkv
      obtain ⟨⟨x0, x1, x2, x3, x4, x5, x6, x7⟩, _⟩ := hOr.cells hlt (show cs.getD j C0 = o from ho.symm) hkv
      have HAP : Hid (∀ i, i < j → ∀ b, (kv i).ownBlock = some b → (kv j).ownBlock ≠ some b) := fun i hi b hb => hOr.apart i j hi hlt b hb
      have HRW : Hid (wr.ownsRow lo 2 1 (.slice ka kn kc) o.l.length (ints o.l)) := by show World.ownsRow _ _ _ _ _ _ _; rw [← hkv, ho]; exact hrow
      have HKV : Hid (kv j = .slice ka kn kc) := hkv
      have HO1 : Hid (o = cs.getD j C0) := ho
      obtain ⟨op, oq, ov, ol, ox, oy, oh, om⟩ := o
      simp only at x0 x1 x2 x3 x4 x5 x6 x7
      have hki : (j : Int) < (n : Int) := by omega
      clear ho hkv hrow hOr hkn
      by_cases hid : op = id
      · have hib : (op != id) = false := by simp [hid]
        have HPN : Hid (pd (⟨op, oq, ov, ol, ox, oy, oh, om⟩ : Co) = false) := by show pd _ = _; rw [HPD.out]; exact decide_eq_false (fun e => e hid)
        clear hid
        go_wp2
        go_roundw
        case rel => exact ⟨j + 1, m, g, uc, by omega, by go_num, rfl, by show _ = _; rw [filt_noC HL.out hlt HO1.out HPN.out]; exact HM.out, HS.out.skip HL.out hlt HO1.out HPN.out, hbel⟩
        case measure => simp [intOf]; omega
      · have hib : (op != id) = true := by simpa using hid
        have HPY : Hid (pd (⟨op, oq, ov, ol, ox, oy, oh, om⟩ : Co) = true) := by show pd _ = _; rw [HPD.out]; exact decide_eq_true hid
        obtain ⟨g5, c5, w5, hrun, H5⟩ := HS.out.add hlo HL.out (by omega) hlt HO1.out HPY.out HKV.out rfl HRW.out HAP.out hbel.size
        rw [← HM.out] at hrun H5
        clear hid
        go_wp2_with (first | (at_builtin; go_must (refine wpList_append_runC (by rfl) _ _ _ (by rfl) (by rfl) (by rfl) hrun ?_); clear hrun))
        go_roundw
        case rel => exact ⟨j + 1, m + 1, g5, c5, by omega, by go_num, rfl, H5.out.2.1.symm, H5.out.1, hbel.trans H5.out.2.2⟩
        case measure => simp [intOf]; omega
    · have hjn : cs.take j = cs := List.take_of_length_le (by rw [HL.out]; omega)
      obtain ⟨bs, hbs⟩ : ∃ t, t = offC cs id := ⟨_, rfl⟩
      have hin : (cs.take j).filter pd = bs := by rw [hjn, HPD.out, hbs]; rfl
      have hm : m = bs.length := by rw [HM.out, hin]
      have hbl : bs.length ≤ 40 := by
        rw [hbs]
        have := List.length_filter_le (fun c : Co => decide (c.p ≠ id)) cs
        have := HL.out
        unfold offC
        omega
      have hjn2 : j ≤ n := hj
      have HB0 : Hid (BackM wr lo g m uc (addCs bs (sp.take 0)) kv kv2 n 0) := by
        obtain ⟨kv', h1, h2⟩ := HS.out
        rw [hin, ← hm] at h1 h2
        exact ⟨kv', h1.own hlo, fun t ht => by obtain ⟨i, hi, e⟩ := h2 t ht; exact .inl ⟨i, by omega, e⟩⟩
      have HBS : Hid (bs = offC cs id) := hbs
      have HGB : Hid (∀ j, ∀ c ∈ addCs bs (sp.take j), coinR c = 0) := fun j c hc => by
        rw [addCs_mem, List.mem_append] at hc
        rcases hc with hc | hc
        · rw [hbs] at hc; exact HOK.out c (List.mem_filter.1 hc).1
        · exact HOK2.out c (List.mem_of_mem_take hc)
      have HLN : Hid (∀ j, j ≤ n2 → (addCs bs (sp.take j)).length = bs.length + j) := fun j hj => by rw [addCs_cnt, List.length_take, HL2.out]; omega
      have HMB : Hid (m = bs.length) := hm
      have hm40 : m ≤ 40 := by omega
      have hki : ¬ (j : Int) < (n : Int) := by omega
      have HBE : Hid (Below w.heap.size w wr) := hbel
      clear hjn hbs hin hm hbl HS HM hjn2 hbel
      go_wp2
      obtain ⟨W, hW⟩ : ∃ W, W = wr := ⟨_, rfl⟩
      subst hW
      go_loopw [7, 9] (fun v i wr => ∃ (j m' g uc : Nat), j ≤ n2 ∧ i = .int .i64 j ∧ v = .slice (some ⟨g, 0, none⟩) m' uc ∧ m' = m + j ∧ Hid (BackM wr lo g m' uc (addCs bs (sp.take j)) kv kv2 n j) ∧ Below w.heap.size w wr) (fun _ i _ => n2 - (intOf i).toNat)
      case atStart => exact ⟨0, m, g, uc, Nat.zero_le _, rfl, rfl, rfl, HB0.out, HBE.out⟩
      case round =>
        obtain ⟨i, m', g, uc, hi, rfl, rfl, hm', HB, hbel⟩ := hrel
        obtain ⟨ts, hts⟩ : ∃ t, t = addCs bs (sp.take i) := ⟨_, rfl⟩
        have htl : ts.length = m' := by rw [hts, HLN.out i hi, hm', HMB.out]
        have hm80 : m' ≤ 80 := by omega
        have HM' : Hid (m' = m + i) := hm'
        clear hm'
        have htg : ∀ t, t < m' → coinR (ts.getD t C0) = 0 := fun t ht => by
          have := get_memC htl ht
          have h2 := HGB.out i
          rw [← hts] at h2
          exact h2 _ this
        have htk : ∀ t, t < m' → (ts.getD t C0).l.length ≤ 1048576 := fun t ht => by have := (coin_more (htg t ht)).2.2.2; omega
        by_cases hlt : i < n2
        · have hOr := HS2.out.below hbel
          obtain ⟨ga, ug, eg⟩ : ∃ g ug, (Value.slice a2 n2 c2) = .slice (some ⟨g, 0, none⟩) n2 ug := by
            obtain ⟨xs, h1, _⟩ := hOr.row
            rcases h1.2 with ⟨e1, e2⟩ | ⟨g, cp, cur, e1, _⟩
            · omega
            · exact ⟨g, cp, e1⟩
          cases eg
          obtain ⟨o, ho⟩ : ∃ o, o = sp.getD i C0 := ⟨_, rfl⟩
          have hrow := (hOr.keys i hlt).1
          rw [← ho] at hrow
          obtain ⟨ka, kc, hkv⟩ := own_key hrow
          obtain ⟨⟨x0, x1, x2, x3, x4, x5, x6, x7⟩, _⟩ := hOr.cells hlt (show sp.getD i C0 = o from ho.symm) hkv
          obtain ⟨kz, hz1, hz2⟩ := HB.out
          rw [← hts] at hz1
          have hap : ∀ t, t < m' → ∀ b, (kz t).ownBlock = some b → (kv2 i).ownBlock ≠ some b := fun t ht b hb => by
            rcases hz2 t ht with ⟨q, hq, e⟩ | ⟨q, hq, e⟩
            · rw [e] at hb; exact HX.out q hq i hlt b hb
            · rw [e] at hb; exact hOr.apart q i hq hlt b hb
          rw [hkv] at hrow hap
          have HAT : Hid (addCs bs (sp.take (i + 1)) = addC ts o) := by show _ = _; rw [hts]; exact addCs_take HL2.out hlt ho
          have HKV : Hid (kv2 i = .slice ka o.l.length kc) := hkv
          have HZ2 : Hid (∀ t, t < m' → (∃ q, q < n ∧ kz t = kv q) ∨ ∃ q, q < i ∧ kz t = kv2 q) := hz2
          obtain ⟨op, oq, ov, ol, ox, oy, oh, om⟩ := o
          simp only at x0 x1 x2 x3 x4 x5 x6 x7 hrow hap
          have hA := l4AddB_any g m' uc lo kc ka ts kz op oq ov ol ox oy oh om wr htl (by omega) htk (Nat.le_trans hlo hbel.size) hz1 hrow hap
          have hki2 : (i : Int) < (n2 : Int) := by omega
          have HBL : Hid (Below w.heap.size w wr) := hbel
          simp only at HKV
          clear ho hkv hrow hOr hap hz1 hz2 HB hts htg htk htl hbel
          go_wp2_with (first
            | (go_at_call 50; (with_reducible refine hA.mono ?_); clear hA; rintro e w5 ⟨g5, c5, rfl, HO5, hb5⟩; have HO5' : Hid (∃ kv', COwn w5 lo w5.heap.size (.slice (some ⟨g5, 0, none⟩) (m' + 1) c5) (m' + 1) (fun j => (addC ts (⟨op, oq, ov, ol, ox, oy, oh, om⟩ : Co)).getD j C0) kv' ∧ FromK kv' kz (.slice ka ol.length kc) m') := HO5; have HB5 : Hid (Below wr.heap.size wr w5) := hb5; clear HO5 hb5))
          go_roundw
          case rel =>
            refine ⟨i + 1, m' + 1, g5, c5, by omega, by go_num, rfl, by have := HM'.out; omega, ?_, HBL.out.trans (HB5.out.mono HBL.out.size)⟩
            obtain ⟨kv', h1, h2⟩ := HO5'.out
            rw [HAT.out]
            refine ⟨kv', h1, fun t ht => ?_⟩
            rcases h2 t ht with e | ⟨q, hq, e⟩
            · exact .inr ⟨i, by omega, by rw [e]; exact HKV.out.symm⟩
            · rw [e]
              rcases HZ2.out q hq with h3 | ⟨q2, h3, h4⟩
              · exact .inl h3
              · exact .inr ⟨q2, by omega, h4⟩
          case measure => simp [intOf]; omega
        · have hsp : sp.take i = sp := List.take_of_length_le (by rw [HL2.out]; omega)
          have hCA : CAt wr (some ⟨g, 0, none⟩) m' ts := by
            obtain ⟨kz, hz1, _⟩ := HB.out
            rw [← hts] at hz1
            exact own_at2 hz1 htl htk
          have HTS : Hid (ts = addCs (offC cs id) sp) := by show _ = _; rw [hts, hsp, HBS.out]
          have hcp := l4Copy_any m' uc (some ⟨g, 0, none⟩) ts wr (by omega) htg hCA
          have hcp' : Calls Tryz.prog 48 #[.slice (some ⟨g, 0, none⟩) m' uc] wr fun e w' => ∃ va vc, e = .returned (.slice va m' vc) ∧ Hid (∃ kv, COwn w' wr.heap.size w'.heap.size (.slice va m' vc) m' (fun j => ts.getD j C0) kv) ∧ Hid (Below wr.heap.size wr w') :=
            hcp.mono fun e w' ⟨v, kv, h1, h2, h3⟩ => by
              obtain ⟨va, vc, hv⟩ := own_slice4 h2
              subst hv
              exact ⟨va, vc, h1, ⟨kv, h2⟩, h3⟩
          have HTL : Hid (ts.length = m') := htl
          have HBL : Hid (Below w.heap.size w wr) := hbel
          have hki2 : ¬ (i : Int) < (n2 : Int) := by omega
          clear hcp hCA hts hsp htl htg htk HB hbel
          go_wp2_with (first
            | (go_at_call 48; (with_reducible refine hcp'.mono ?_); clear hcp'; rintro e w7 ⟨va, vc, rfl, HO7, HB7⟩))
          go_ret
          rw [← HTS.out, HTL.out]
          obtain ⟨kv7, hO7⟩ := HO7.out
          refine ⟨va, vc, rfl, ⟨kv7, ?_⟩, HBL.out.trans (HB7.out.mono HBL.out.size)⟩
          obtain ⟨xs, h1, h2⟩ := hO7.row
          exact ⟨⟨xs, Joins.ownsRow_le h1 HBL.out.size, h2⟩, hO7.top, fun j hj => ⟨Joins.ownsRow_le (hO7.keys j hj).1 HBL.out.size, (hO7.keys j hj).2⟩, hO7.apart⟩

end Go.Proofs.YtedchnkeigagcaaGreat
