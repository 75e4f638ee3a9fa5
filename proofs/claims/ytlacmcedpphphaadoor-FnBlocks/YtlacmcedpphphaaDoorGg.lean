/- The program's readNumbers keeps its contract. -/
import Derived.Test.YtlacmcedpphphaaDoorGf
namespace Go.Proofs.YtlacmcedpphphaaDoor
open Go.RowKit Go.Shelf Go.Maps Go.WideMaps

def JMk (t : List UInt8) (w0 : World) (a : Act) (w : World) : Prop := ∃ (k : Nat) (ns : List Int) (va : Option Addr) (vc : Nat) (u5 u7 u8 u9 u10 u11 u12 u13 u14 u15 u16 u17 u18 u19 u20 u21 u22 u23 u24 u25 u26 u27 u28 u29 u30 u31 u32 u33 u34 u35 u36 u37 u38 u39 u40 u41 u42 u43 u44 u45 u46 u47 u48 u49 u50 u51 u52 u53 u54 u55 u56 u57 u58 u59 u60 u61 u62 u63 u64 u65 u66 u67 u68 u69 : Value), a = { tmps := #[.string (str t), undef, .slice none 0 0, .bool false, .slice va ns.length vc, u5, .int .i64 k, u7, u8, u9, u10, u11, u12, u13, u14, u15, u16, u17, u18, u19, u20, u21, u22, u23, u24, u25, u26, u27, u28, u29, u30, u31, u32, u33, u34, u35, u36, u37, u38, u39, u40, u41, u42, u43, u44, u45, u46, u47, u48, u49, u50, u51, u52, u53, u54, u55, u56, u57, u58, u59, u60, u61, u62, u63, u64, u65, u66, u67, u68, u69], defers := [] } ∧ k ≤ t.length ∧ ns.length ≤ k ∧ Hid (∃ f, t.length < f + k ∧ rdF (t.length + 1) t [] = rdF f (t.drop k) ns) ∧ Hid (w.ownsRow w0.heap.size 2 1 (.slice va ns.length vc) ns.length (ints ns)) ∧ Hid (Below w0.heap.size w0 w)
def JDg (t : List UInt8) (w0 : World) (a : Act) (w : World) : Prop := ∃ (k v : Nat) (ns : List Int) (va : Option Addr) (vc : Nat) (u7 u8 u9 u10 u11 u12 u13 u14 u15 u16 u17 u18 u19 u20 u21 u22 u23 u24 u25 u26 u27 u28 u29 u30 u31 u32 u33 u34 u35 u36 u37 u38 u39 u40 u41 u42 u43 u44 u45 u46 u47 u48 u49 u50 u51 u52 u53 u54 u55 u56 u57 u58 u59 u60 u61 u62 u63 u64 u65 u66 u67 u68 u69 : Value), a = { tmps := #[.string (str t), undef, .slice none 0 0, .bool false, .slice va ns.length vc, .int .i64 v, .int .i64 k, u7, u8, u9, u10, u11, u12, u13, u14, u15, u16, u17, u18, u19, u20, u21, u22, u23, u24, u25, u26, u27, u28, u29, u30, u31, u32, u33, u34, u35, u36, u37, u38, u39, u40, u41, u42, u43, u44, u45, u46, u47, u48, u49, u50, u51, u52, u53, u54, u55, u56, u57, u58, u59, u60, u61, u62, u63, u64, u65, u66, u67, u68, u69], defers := [] } ∧ k < t.length ∧ v ≤ 999 ∧ ns.length ≤ k ∧ Hid (isDg (t.getD k 0) = true) ∧ Hid (∃ f, t.length < f + k ∧ rdF (t.length + 1) t [] = rdD f (t.drop k) v ns) ∧ Hid (w.ownsRow w0.heap.size 2 1 (.slice va ns.length vc) ns.length (ints ns)) ∧ Hid (Below w0.heap.size w0 w)
def JEn (t : List UInt8) (w0 : World) (a : Act) (w : World) : Prop := ∃ (ns : List Int) (va : Option Addr) (vc : Nat) (u5 u6 u7 u8 u9 u10 u11 u12 u13 u14 u15 u16 u17 u18 u19 u20 u21 u22 u23 u24 u25 u26 u27 u28 u29 u30 u31 u32 u33 u34 u35 u36 u37 u38 u39 u40 u41 u42 u43 u44 u45 u46 u47 u48 u49 u50 u51 u52 u53 u54 u55 u56 u57 u58 u59 u60 u61 u62 u63 u64 u65 u66 u67 u68 u69 : Value), a = { tmps := #[.string (str t), undef, .slice none 0 0, .bool false, .slice va ns.length vc, u5, u6, u7, u8, u9, u10, u11, u12, u13, u14, u15, u16, u17, u18, u19, u20, u21, u22, u23, u24, u25, u26, u27, u28, u29, u30, u31, u32, u33, u34, u35, u36, u37, u38, u39, u40, u41, u42, u43, u44, u45, u46, u47, u48, u49, u50, u51, u52, u53, u54, u55, u56, u57, u58, u59, u60, u61, u62, u63, u64, u65, u66, u67, u68, u69], defers := [] } ∧ ns.length ≤ 1048576 ∧ Hid (rdF (t.length + 1) t [] = if 3 ≤ ns.length then some ns else none) ∧ Hid (w.ownsRow w0.heap.size 2 1 (.slice va ns.length vc) ns.length (ints ns)) ∧ Hid (Below w0.heap.size w0 w)
def JWr (t : List UInt8) (w0 : World) (a : Act) (w : World) : Prop := ∃ (u4 u5 u6 u7 u8 u9 u10 u11 u12 u13 u14 u15 u16 u17 u18 u19 u20 u21 u22 u23 u24 u25 u26 u27 u28 u29 u30 u31 u32 u33 u34 u35 u36 u37 u38 u39 u40 u41 u42 u43 u44 u45 u46 u47 u48 u49 u50 u51 u52 u53 u54 u55 u56 u57 u58 u59 u60 u61 u62 u63 u64 u65 u66 u67 u68 u69 : Value), a = { tmps := #[.string (str t), undef, .slice none 0 0, .bool false, u4, u5, u6, u7, u8, u9, u10, u11, u12, u13, u14, u15, u16, u17, u18, u19, u20, u21, u22, u23, u24, u25, u26, u27, u28, u29, u30, u31, u32, u33, u34, u35, u36, u37, u38, u39, u40, u41, u42, u43, u44, u45, u46, u47, u48, u49, u50, u51, u52, u53, u54, u55, u56, u57, u58, u59, u60, u61, u62, u63, u64, u65, u66, u67, u68, u69], defers := [] } ∧ Hid (rdF (t.length + 1) t [] = none) ∧ Hid (Below w0.heap.size w0 w)
def JL (t : List UInt8) (w0 : World) (l : Nat) (a : Act) (w : World) : Prop := (l = 0 ∧ JEn t w0 a w) ∨ (l = 1 ∧ JMk t w0 a w) ∨ (l = 2 ∧ JWr t w0 a w) ∨ (l = 3 ∧ JDg t w0 a w)
def muL (t : List UInt8) (l : Nat) (a : Act) (_ : World) : Nat := if l = 1 then 3 * (t.length - (intOf (a.tmps.getD 6 undef)).toNat) + 2 else if l = 3 then 3 * (t.length - (intOf (a.tmps.getD 6 undef)).toNat) + 1 else 0
/-- What readNumbers answers. -/
def OutN (w w' : World) (e : Ending) (t : List UInt8) : Prop := Below w.heap.size w w' ∧ ∃ (va : Option Addr) (n vc : Nat), e = .returned (.tuple #[.slice va n vc, .bool (rdF (t.length + 1) t []).isSome]) ∧ ∀ ns, rdF (t.length + 1) t [] = some ns → n = ns.length ∧ 3 ≤ n ∧ n ≤ 1048576 ∧ w'.ownsRow w.heap.size 2 1 (.slice va n vc) n (ints ns)
theorem outN_end {w w' : World} {t : List UInt8} {ns : List Int} {va : Option Addr} {vc : Nat} {b : Bool} (hb : Below w.heap.size w w') (h : rdF (t.length + 1) t [] = if 3 ≤ ns.length then some ns else none) (hn : ns.length ≤ 1048576) (hO : w'.ownsRow w.heap.size 2 1 (.slice va ns.length vc) ns.length (ints ns)) (e : b = decide (3 ≤ ns.length)) : OutN w w' (.returned (.tuple #[.slice va ns.length vc, .bool b])) t := by
  refine ⟨hb, va, ns.length, vc, ?_, fun ms hm => ?_⟩
  · rw [h, e]
    by_cases h3 : 3 ≤ ns.length
    · rw [if_pos h3, decide_eq_true h3]; rfl
    · rw [if_neg h3, decide_eq_false h3]; rfl
  · rw [h] at hm
    by_cases h3 : 3 ≤ ns.length
    · rw [if_pos h3] at hm
      cases hm
      exact ⟨rfl, h3, hn, hO⟩
    · rw [if_neg h3] at hm; cases hm
theorem outN_none {w w' : World} {t : List UInt8} (hb : Below w.heap.size w w') (h : rdF (t.length + 1) t [] = none) : OutN w w' (.returned (.tuple #[.slice none 0 0, .bool false])) t :=
  ⟨hb, none, 0, 0, by rw [h]; rfl, fun ms hm => by rw [h] at hm; cases hm⟩

theorem jumps_of_ret {J : Nat → Act → World → Prop} {Q : Exit → Act → World → Prop} {a : Act} {w : World} (h : Q .ret a w) : jumps J Q .ret a w := h
set_option maxRecDepth 40000 in
set_option maxHeartbeats 16000000 in
theorem readNumbers_any (t : List UInt8) (w0 : World) (ht : t.length ≤ 1048576) :
    Calls Tryd.prog 36 #[.string (str t)] w0 fun e w' => OutN w0 w' e t := by
  have hss : (str t).size = t.length := rfl
  have HIX : Hid (∀ (k : Nat) hh, (str t)[k]'hh = t.getD k 0) := fun k hh => by
    have : k < t.length := hh
    simp [List.getD, this, str, ByteArray.getElem_eq_getElem_data]
  have HEX : Hid (∀ k : Nat, (str t).extract k t.length = str (t.drop k)) := fun k => by rw [str_cut]; congr 1; exact List.take_of_length_le (by rw [List.length_drop]; omega)
  go_enter Tryd.func36, Tryd.ntmps36
  go_wp2
  refine wp_scope4 (JL t w0) (muL t) (fun l a w h => by rcases h with ⟨h, _⟩ | ⟨h, _⟩ | ⟨h, _⟩ | ⟨h, _⟩ <;> simp [h]) rfl rfl rfl rfl ?end_ ?wrong ?digit ?mark ?first
  case wrong =>
    intro a w hJ
    rcases hJ with ⟨h, _⟩ | ⟨h, _⟩ | ⟨_, hJ⟩ | ⟨h, _⟩
    · cases h
    · cases h
    · obtain ⟨u4, u5, u6, u7, u8, u9, u10, u11, u12, u13, u14, u15, u16, u17, u18, u19, u20, u21, u22, u23, u24, u25, u26, u27, u28, u29, u30, u31, u32, u33, u34, u35, u36, u37, u38, u39, u40, u41, u42, u43, u44, u45, u46, u47, u48, u49, u50, u51, u52, u53, u54, u55, u56, u57, u58, u59, u60, u61, u62, u63, u64, u65, u66, u67, u68, u69, rfl, HF, HB⟩ := hJ
      go_wp2
      exact jumps_of_ret <| bodyPost_ret (v := .tuple #[.slice none 0 0, .bool false]) (by simp [results, Tryd.results36, go_sem]) rfl (outN_none HB.out HF.out)
    · cases h
  case end_ =>
    intro a w hJ
    rcases hJ with ⟨_, hJ⟩ | ⟨h, _⟩ | ⟨h, _⟩ | ⟨h, _⟩
    · obtain ⟨ns, va, vc, u5, u6, u7, u8, u9, u10, u11, u12, u13, u14, u15, u16, u17, u18, u19, u20, u21, u22, u23, u24, u25, u26, u27, u28, u29, u30, u31, u32, u33, u34, u35, u36, u37, u38, u39, u40, u41, u42, u43, u44, u45, u46, u47, u48, u49, u50, u51, u52, u53, u54, u55, u56, u57, u58, u59, u60, u61, u62, u63, u64, u65, u66, u67, u68, u69, rfl, hn, HF, HO, HB⟩ := hJ
      go_wp2
      exact jumps_of_ret <| bodyPost_ret (v := .tuple #[.slice va ns.length vc, .bool (decide ((3 : Int) ≤ (ns.length : Int)))]) (by simp [results, Tryd.results36, go_sem]) rfl (outN_end HB.out HF.out hn HO.out (by by_cases h : 3 ≤ ns.length <;> simp <;> omega))
    · cases h
    · cases h
    · cases h

  case digit =>
    intro a w hJ
    rcases hJ with ⟨h, _⟩ | ⟨h, _⟩ | ⟨h, _⟩ | ⟨_, hJ⟩
    · cases h
    · cases h
    · cases h
    · obtain ⟨k, v, ns, va, vc, u7, u8, u9, u10, u11, u12, u13, u14, u15, u16, u17, u18, u19, u20, u21, u22, u23, u24, u25, u26, u27, u28, u29, u30, u31, u32, u33, u34, u35, u36, u37, u38, u39, u40, u41, u42, u43, u44, u45, u46, u47, u48, u49, u50, u51, u52, u53, u54, u55, u56, u57, u58, u59, u60, u61, u62, u63, u64, u65, u66, u67, u68, u69, rfl, hk, hv, hnk, HDX, HFX, HO, HB⟩ := hJ
      obtain ⟨f, hfk, hff⟩ := HFX.out
      have HF : Hid (rdF (t.length + 1) t [] = rdD f (t.drop k) v ns) := hff
      obtain ⟨x, hx⟩ : ∃ x, x = t.getD k 0 := ⟨_, rfl⟩
      have hixk : ∀ hh, (str t)[k]'hh = x := fun hh => by rw [HIX.out, hx]
      have HXK : Hid (t.getD k 0 = x) := hx.symm
      have hdx : isDg x = true := by rw [hx]; exact HDX.out
      clear hx hff HFX HDX
      have hb := dg_le hdx
      have e3 : IntKind.u8.wrap ((x.toNat : Int) - 48) = ((x.toNat - 48 : Nat) : Int) := by simp [IntKind.wrap, IntKind.bits, IntKind.signed]; omega
      have e4 : IntKind.i64.wrap ((x.toNat - 48 : Nat) : Int) = ((x.toNat - 48 : Nat) : Int) := IntWalk.i64_in _ (by omega)
      have e5 : IntKind.i64.wrap ((v : Int) * 10) = (v : Int) * 10 := IntWalk.i64_in _ (by omega)
      obtain ⟨z, hz⟩ : ∃ z, z = addD v x := ⟨_, rfl⟩
      have hzv : z = v * 10 + (x.toNat - 48) := hz
      have e6 : IntKind.i64.wrap ((v : Int) * 10 + ((x.toNat - 48 : Nat) : Int)) = (z : Int) := by rw [IntWalk.i64_in _ (by omega), hzv]; omega
      have HD : Hid (rdF (t.length + 1) t [] = rdD f (t.drop (k + 1)) z ns) := by show _ = _; rw [HF.out, drop_get hk HXK.out.symm, rdD_step hdx, hz]
      obtain ⟨k1, hk1⟩ : ∃ k1, k1 = k + 1 := ⟨_, rfl⟩
      have e7 : IntKind.i64.wrap ((k : Int) + 1) = (k1 : Int) := by rw [IntWalk.i64_in _ (by omega), hk1]; omega
      rw [← hk1] at HD
      have hk1b : k1 ≤ t.length := by omega
      have hn1 : ns.length + 1 ≤ k1 := by omega
      have hf1 : t.length < f + k1 := by omega
      have hmu : 3 * (t.length - k1) + 2 < 3 * (t.length - k) + 1 := by omega
      have hki : (k : Int) < (t.length : Int) := by omega
      clear hz hb
      by_cases hbig : 999 < z
      · have d1 : decide ((999 : Int) < (z : Int)) = true := by simp; omega
        have HW : Hid (rdF (t.length + 1) t [] = none) := by show _ = _; rw [HD.out]; exact rdD_big hbig
        clear hzv hk1 hdx
        go_wp2
        go_step3
        (show JL t w0 2 _ _ ∧ muL t 2 _ _ < _; exact ⟨.inr (.inr (.inl ⟨rfl, ⟨_, _, _, _, _, _, _, _, _, _, _, _, _, _, _, _, _, _, _, _, _, _, _, _, _, _, _, _, _, _, _, _, _, _, _, _, _, _, _, _, _, _, _, _, _, _, _, _, _, _, _, _, _, _, _, _, _, _, _, _, _, _, _, _, _, _, rfl, HW, HB⟩⟩)), by simp [muL, intOf]; try omega⟩)
      have d1 : decide ((999 : Int) < (z : Int)) = false := by simp; omega
      have hz9 : z ≤ 999 := by omega
      obtain ⟨g5, cap, w5, hrun, HC5⟩ := int_added (W := w) (k := (z : Int)) HO.out (by omega) HB.out.size
      obtain ⟨ns2, hns2⟩ : ∃ m, m = ns ++ [(z : Int)] := ⟨_, rfl⟩
      have hl2 : ns.length + 1 = ns2.length := by rw [hns2]; simp
      rw [hl2] at hrun HC5
      have HN2 : Hid (ns2 = ns ++ [(z : Int)]) := hns2
      have HLN : Hid (ns2.length ≤ k1) := by rw [← hl2]; exact hn1
      have HO5 : Hid (w5.ownsRow w0.heap.size 2 1 (.slice (some ⟨g5, 0, none⟩) ns2.length cap) ns2.length (ints ns2)) := by have h5 := HC5.out.1; rw [← ints_more, ← hns2] at h5; exact h5
      clear hl2 hns2
      have HB5 : Hid (Below w0.heap.size w0 w5) := HB.out.trans HC5.out.2
      clear hzv
      by_cases hl1 : k1 < t.length
      · obtain ⟨y, hy⟩ : ∃ y, y = t.getD k1 0 := ⟨_, rfl⟩
        have hiy : ∀ hh, (str t)[k1]'hh = y := fun hh => by rw [HIX.out, hy]
        have HY : Hid (t.getD k1 0 = y) := hy.symm
        have hki1 : (k1 : Int) < (t.length : Int) := by omega
        obtain ⟨dy, hdy⟩ : ∃ d, d = isDg y := ⟨_, rfl⟩
        have hDY : ∀ u, Calls Tryd.prog 52 #[.int .u8 (y.toNat : Int)] u fun e w' => e = .returned (.bool dy) ∧ w' = u := fun u => by rw [hdy]; exact isDigit_any y u
        have HDY : Hid (isDg y = dy) := hdy.symm
        clear hy hdy hk1 hdx
        cases dy
        · have HM : Hid (rdF (t.length + 1) t [] = rdF f (t.drop k1) ns2) := by show _ = _; rw [HN2.out, HD.out, drop_get hl1 HY.out.symm]; exact rdD_stop (by omega) (by rw [HDY.out]; simp)
          go_wp2_with (first | (go_at_call 52; (with_reducible refine (hDY _).mono ?_); clear hDY; rintro e w' ⟨rfl, hw⟩; have hw2 := hw.symm; subst hw2; clear hw) | (at_builtin; go_must (refine wpList_append_runC (by rfl) _ _ _ (by rfl) (by rfl) (by rfl) hrun ?_); clear hrun))
          go_step3
          (show JL t w0 1 _ _ ∧ muL t 1 _ _ < _; exact ⟨.inr (.inl ⟨rfl, ⟨k1, ns2, some ⟨g5, 0, none⟩, cap, _, _, _, _, _, _, _, _, _, _, _, _, _, _, _, _, _, _, _, _, _, _, _, _, _, _, _, _, _, _, _, _, _, _, _, _, _, _, _, _, _, _, _, _, _, _, _, _, _, _, _, _, _, _, _, _, _, _, _, _, _, _, _, _, rfl, hk1b, HLN.out, ⟨f, hf1, HM.out⟩, HO5, HB5⟩⟩), by simp [muL, intOf]; omega⟩)
        · go_wp2_with (first | (go_at_call 52; (with_reducible refine (hDY _).mono ?_); clear hDY; rintro e w' ⟨rfl, hw⟩; have hw2 := hw.symm; subst hw2; clear hw) | (at_builtin; go_must (refine wpList_append_runC (by rfl) _ _ _ (by rfl) (by rfl) (by rfl) hrun ?_); clear hrun))
          go_step3
          (show JL t w0 3 _ _ ∧ muL t 3 _ _ < _; exact ⟨.inr (.inr (.inr ⟨rfl, ⟨k1, z, ns, va, vc, _, _, _, _, _, _, _, _, _, _, _, _, _, _, _, _, _, _, _, _, _, _, _, _, _, _, _, _, _, _, _, _, _, _, _, _, _, _, _, _, _, _, _, _, _, _, _, _, _, _, _, _, _, _, _, _, _, _, _, _, _, _, _, rfl, hl1, hz9, by omega, by show _ = _; rw [HY.out]; exact HDY.out, ⟨f, hf1, HD.out⟩, HO, HB⟩⟩)), by simp [muL, intOf]; omega⟩)
      · have HM : Hid (rdF (t.length + 1) t [] = rdF f (t.drop k1) ns2) := by show _ = _; rw [HN2.out, HD.out, List.drop_eq_nil_of_le (by omega)]; exact rdD_last (by omega)
        clear hk1 hdx
        go_wp2_with (first | (go_at_call 52; (with_reducible refine (hDY _).mono ?_); clear hDY; rintro e w' ⟨rfl, hw⟩; have hw2 := hw.symm; subst hw2; clear hw) | (at_builtin; go_must (refine wpList_append_runC (by rfl) _ _ _ (by rfl) (by rfl) (by rfl) hrun ?_); clear hrun))
        go_step3
        (show JL t w0 1 _ _ ∧ muL t 1 _ _ < _; exact ⟨.inr (.inl ⟨rfl, ⟨k1, ns2, some ⟨g5, 0, none⟩, cap, _, _, _, _, _, _, _, _, _, _, _, _, _, _, _, _, _, _, _, _, _, _, _, _, _, _, _, _, _, _, _, _, _, _, _, _, _, _, _, _, _, _, _, _, _, _, _, _, _, _, _, _, _, _, _, _, _, _, _, _, _, _, _, _, rfl, hk1b, HLN.out, ⟨f, hf1, HM.out⟩, HO5, HB5⟩⟩), by simp [muL, intOf]; omega⟩)
  case mark =>
    intro p3 a w hJ
    rcases hJ with ⟨h, _⟩ | ⟨_, hJ⟩ | ⟨h, _⟩ | ⟨h, _⟩
    · cases h
    · obtain ⟨k, ns, va, vc, u5, u7, u8, u9, u10, u11, u12, u13, u14, u15, u16, u17, u18, u19, u20, u21, u22, u23, u24, u25, u26, u27, u28, u29, u30, u31, u32, u33, u34, u35, u36, u37, u38, u39, u40, u41, u42, u43, u44, u45, u46, u47, u48, u49, u50, u51, u52, u53, u54, u55, u56, u57, u58, u59, u60, u61, u62, u63, u64, u65, u66, u67, u68, u69, rfl, hk0, hnk, HFX, HO, HB⟩ := hJ
      obtain ⟨f0, hf0, hff⟩ := HFX.out
      obtain ⟨f, rfl⟩ : ∃ f, f0 = f + 1 := ⟨f0 - 1, by omega⟩
      have HF0 : Hid (rdF (t.length + 1) t [] = rdF (f + 1) (t.drop k) ns) := hff
      clear hff HFX
      have hnb : ns.length ≤ 1048576 := by omega
      by_cases hke : k = t.length
      · have d0 : ((k : Int) == (t.length : Int)) = true := by simp [hke]
        have HE : Hid (rdF (t.length + 1) t [] = if 3 ≤ ns.length then some ns else none) := by show _ = _; rw [HF0.out, List.drop_eq_nil_of_le (by omega), rdF_nil]
        clear hke
        go_wp2
        go_step3
        (show JL t w0 0 _ _ ∧ muL t 0 _ _ < _; exact ⟨.inl ⟨rfl, ⟨ns, va, vc, _, _, _, _, _, _, _, _, _, _, _, _, _, _, _, _, _, _, _, _, _, _, _, _, _, _, _, _, _, _, _, _, _, _, _, _, _, _, _, _, _, _, _, _, _, _, _, _, _, _, _, _, _, _, _, _, _, _, _, _, _, _, _, _, _, rfl, hnb, HE, HO, HB⟩⟩, by simp [muL, intOf]; try omega⟩)
      have hkl : k < t.length := by omega
      have d0 : ((k : Int) == (t.length : Int)) = false := by simp; omega
      have d0n : (k == t.length) = false := by simp; omega
      have hki0 : (k : Int) < (t.length : Int) := by omega
      obtain ⟨b, hbx⟩ : ∃ b, b = t.getD k 0 := ⟨_, rfl⟩
      have hib : ∀ hh, (str t)[k]'hh = b := fun hh => by rw [HIX.out, hbx]
      have HBK : Hid (t.drop k = b :: t.drop (k + 1)) := drop_get hkl hbx
      obtain ⟨mc, hmc⟩ : ∃ c, c = markC ns.length := ⟨_, rfl⟩
      have hMA : ∀ u, Calls Tryd.prog 51 #[.int .i64 (ns.length : Int)] u fun e w' => e = .returned (.int .u8 (mc.toNat : Int)) ∧ w' = u := fun u => by rw [hmc]; exact markAhead_any ns.length u (by omega)
      have HMC : Hid (mc = markC ns.length) := hmc
      have HOd : Hid (w.drew.ownsRow w0.heap.size 2 1 (.slice va ns.length vc) ns.length (ints ns)) := HO.out
      have HBd : Hid (Below w0.heap.size w0 w.drew) := HB.out.drew
      clear hbx hmc hke
      by_cases hbm : b = mc
      case neg =>
        have d1 : ((b.toNat : Int) == (mc.toNat : Int)) = false := by simp; intro e; exact hbm (UInt8.toNat_inj.1 (by omega))
        have d1n : ((b.toNat : Int) != (mc.toNat : Int)) = true := by rw [bne, d1]; rfl
        have HW : Hid (rdF (t.length + 1) t [] = none) := by show _ = _; rw [HF0.out, HBK.out]; exact rdF_wrong (by rw [← HMC.out]; exact hbm)
        clear hbm
        go_wp2
        go_region_held3 (fun _ => True) (trivial) (first | (go_at_call 51; (with_reducible refine (hMA _).mono ?_); rintro e w' ⟨rfl, hw⟩; have hw2 := hw.symm; subst hw2; clear hw))
        all_goals
          go_wp2
          go_step3
          (show JL t w0 2 _ _ ∧ muL t 2 _ _ < _; exact ⟨.inr (.inr (.inl ⟨rfl, ⟨_, _, _, _, _, _, _, _, _, _, _, _, _, _, _, _, _, _, _, _, _, _, _, _, _, _, _, _, _, _, _, _, _, _, _, _, _, _, _, _, _, _, _, _, _, _, _, _, _, _, _, _, _, _, _, _, _, _, _, _, _, _, _, _, _, _, rfl, HW, HBd⟩⟩)), by simp [muL, intOf]; try omega⟩)
      case pos =>
      have d1 : ((b.toNat : Int) == (mc.toNat : Int)) = true := by simp [hbm]
      have d1n : ((b.toNat : Int) != (mc.toNat : Int)) = false := by rw [bne, d1]; rfl
      have HBM : Hid (b = markC ns.length) := by rw [hbm]; exact HMC
      obtain ⟨k2, hk2⟩ : ∃ k2, k2 = k + 1 := ⟨_, rfl⟩
      have e7m : IntKind.i64.wrap ((k : Int) + 1) = (k2 : Int) := by rw [IntWalk.i64_in _ (by omega), hk2]; omega
      obtain ⟨rr, hrr⟩ : ∃ r, r = t.drop k2 := ⟨_, rfl⟩
      have hxr : (str t).extract k2 t.length = str rr := by rw [hrr]; exact HEX.out k2
      have HRR : Hid (rr = t.drop k2) := hrr
      have HF1 : Hid (rdF (t.length + 1) t [] = rdF (f + 1) (b :: rr) ns) := by show _ = _; rw [HF0.out, HBK.out, hrr, hk2]
      have hk2l : k2 ≤ t.length := by omega
      have hk2i : (k2 : Int) ≤ (t.length : Int) := by omega
      have hnk2 : ns.length + 1 ≤ k2 := by omega
      have hfk2 : t.length < f + k2 := by omega
      have hmk : k < k2 := by omega
      clear hbm hrr hk2
      by_cases hend : ns.length = 3 ∧ rr = [45]
      · have d2 : ((ns.length : Int) == 3) = true := by simp [hend.1]
        have d3 : ((str rr).toList == [45]) = true := by rw [str_is, decide_eq_true hend.2]
        have HE : Hid (rdF (t.length + 1) t [] = if 3 ≤ ns.length then some ns else none) := by show _ = _; rw [HF1.out, rdF_end HBM.out hend.1 hend.2, if_pos (by omega)]
        clear hend
        go_wp2
        go_region_held3 (fun _ => True) (trivial) (first | (go_at_call 51; (with_reducible refine (hMA _).mono ?_); rintro e w' ⟨rfl, hw⟩; have hw2 := hw.symm; subst hw2; clear hw))
        all_goals
          go_wp2
          go_step3
          (show JL t w0 0 _ _ ∧ muL t 0 _ _ < _; exact ⟨.inl ⟨rfl, ⟨ns, va, vc, _, _, _, _, _, _, _, _, _, _, _, _, _, _, _, _, _, _, _, _, _, _, _, _, _, _, _, _, _, _, _, _, _, _, _, _, _, _, _, _, _, _, _, _, _, _, _, _, _, _, _, _, _, _, _, _, _, _, _, _, _, _, _, _, _, rfl, hnb, HE, HOd, HBd⟩⟩, by simp [muL, intOf]; try omega⟩)
      have d23 : ((ns.length : Int) == 3) = false ∨ (((ns.length : Int) == 3) = true ∧ ((str rr).toList == [45]) = false) := by
        by_cases h3 : ns.length = 3
        · exact .inr ⟨by simp [h3], by rw [str_is, decide_eq_false (fun e => hend ⟨h3, e⟩)]⟩
        · exact .inl (by simp; omega)
      have HEND : Hid (¬ (ns.length = 3 ∧ rr = [45])) := hend
      clear hend
      by_cases hke2 : k2 = t.length
      · have d4 : ((k2 : Int) == (t.length : Int)) = true := by simp [hke2]
        have HW : Hid (rdF (t.length + 1) t [] = none) := by show _ = _; rw [HF1.out, HRR.out, List.drop_eq_nil_of_le (by omega)]; exact rdF_short
        clear hke2
        rcases d23 with d2 | ⟨d2, d3⟩
        all_goals
          go_wp2
          go_region_held3 (fun _ => True) (trivial) (first | (go_at_call 51; (with_reducible refine (hMA _).mono ?_); rintro e w' ⟨rfl, hw⟩; have hw2 := hw.symm; subst hw2; clear hw))
          all_goals
            go_wp2
            go_step3
            (show JL t w0 2 _ _ ∧ muL t 2 _ _ < _; exact ⟨.inr (.inr (.inl ⟨rfl, ⟨_, _, _, _, _, _, _, _, _, _, _, _, _, _, _, _, _, _, _, _, _, _, _, _, _, _, _, _, _, _, _, _, _, _, _, _, _, _, _, _, _, _, _, _, _, _, _, _, _, _, _, _, _, _, _, _, _, _, _, _, _, _, _, _, _, _, rfl, HW, HBd⟩⟩)), by simp [muL, intOf]; try omega⟩)
      have hk : k2 < t.length := by omega
      have d4 : ((k2 : Int) == (t.length : Int)) = false := by simp; omega
      have d4n : (k2 == t.length) = false := by simp; omega
      have hkj : (k2 : Int) < (t.length : Int) := by omega
      obtain ⟨x, hx⟩ : ∃ x, x = t.getD k2 0 := ⟨_, rfl⟩
      have hixk : ∀ hh, (str t)[k2]'hh = x := fun hh => by rw [HIX.out, hx]
      have HXK : Hid (t.getD k2 0 = x) := hx.symm
      have HRX : Hid (rr = x :: t.drop (k2 + 1)) := by show _ = _; rw [HRR.out]; exact drop_get hk hx
      obtain ⟨dx, hdxx⟩ : ∃ d, d = isDg x := ⟨_, rfl⟩
      have hDX : ∀ u, Calls Tryd.prog 52 #[.int .u8 (x.toNat : Int)] u fun e w' => e = .returned (.bool dx) ∧ w' = u := fun u => by rw [hdxx]; exact isDigit_any x u
      have HDXX : Hid (isDg x = dx) := hdxx.symm
      clear hx hdxx hke2
      cases dx
      · have HW : Hid (rdF (t.length + 1) t [] = none) := by show _ = _; rw [HF1.out, HRX.out]; exact rdF_nodg HBM.out (by rw [← HRX.out]; exact HEND.out) (by rw [HDXX.out]; simp)
        rcases d23 with d2 | ⟨d2, d3⟩
        all_goals
          go_wp2
          go_region_held3 (fun _ => True) (trivial) (first | (go_at_call 51; (with_reducible refine (hMA _).mono ?_); rintro e w' ⟨rfl, hw⟩; have hw2 := hw.symm; subst hw2; clear hw))
          all_goals
            go_wp2_with (first | (go_at_call 52; (with_reducible refine (hDX _).mono ?_); rintro e w' ⟨rfl, hw⟩; have hw2 := hw.symm; subst hw2; clear hw))
            go_step3
            (show JL t w0 2 _ _ ∧ muL t 2 _ _ < _; exact ⟨.inr (.inr (.inl ⟨rfl, ⟨_, _, _, _, _, _, _, _, _, _, _, _, _, _, _, _, _, _, _, _, _, _, _, _, _, _, _, _, _, _, _, _, _, _, _, _, _, _, _, _, _, _, _, _, _, _, _, _, _, _, _, _, _, _, _, _, _, _, _, _, _, _, _, _, _, _, rfl, HW, HBd⟩⟩)), by simp [muL, intOf]; try omega⟩)
      have HF : Hid (rdF (t.length + 1) t [] = rdD f (t.drop k2) 0 ns) := by show _ = _; rw [HF1.out, HRX.out, rdF_dig HBM.out (by rw [← HRX.out]; exact HEND.out) HDXX.out, ← HRX.out, HRR.out]
      have HDG : Hid (isDg (t.getD k2 0) = true) := by show _ = _; rw [HXK.out]; exact HDXX.out
      have hfk : t.length < f + k2 := hfk2
      rcases d23 with d2 | ⟨d2, d3⟩
      all_goals
        go_wp2
        go_region_held3 (fun _ => True) (trivial) (first | (go_at_call 51; (with_reducible refine (hMA _).mono ?_); rintro e w' ⟨rfl, hw⟩; have hw2 := hw.symm; subst hw2; clear hw))
        all_goals
          go_wp2_with (first | (go_at_call 52; (with_reducible refine (hDX _).mono ?_); rintro e w' ⟨rfl, hw⟩; have hw2 := hw.symm; subst hw2; clear hw))
          go_step3
          refine ‹∀ (a : Act) (w : World), Code.wp _ _ _ a w → _› _ _ ?_
          refine Code.wp_mono ?_ (p3 _ _ ?_)
          · intro e a w h
            cases e <;> first | exact h | exact ⟨h.1, Nat.lt_trans h.2 (by simp [muL, intOf]; omega)⟩
          · exact .inr (.inr (.inr ⟨rfl, k2, 0, ns, va, vc, _, _, _, _, _, _, _, _, _, _, _, _, _, _, _, _, _, _, _, _, _, _, _, _, _, _, _, _, _, _, _, _, _, _, _, _, _, _, _, _, _, _, _, _, _, _, _, _, _, _, _, _, _, _, _, _, _, _, _, _, _, _, _, rfl, hk, by omega, by omega, HDG, ⟨f, hfk, HF.out⟩, HOd, HBd⟩))
    · cases h
    · cases h
  case first =>
    intro p1
    go_wp2
    go_step3
    refine ‹∀ (a : Act) (w : World), Code.wp _ _ _ a w → _› _ _ ?_
    refine Code.wp_mono ?_ (p1 _ _ ?_)
    · intro e a w h
      cases e <;> first | exact h | exact h.1
    · exact .inr (.inl ⟨rfl, 0, [], none, 0, _, _, _, _, _, _, _, _, _, _, _, _, _, _, _, _, _, _, _, _, _, _, _, _, _, _, _, _, _, _, _, _, _, _, _, _, _, _, _, _, _, _, _, _, _, _, _, _, _, _, _, _, _, _, _, _, _, _, _, _, _, _, _, _, rfl, Nat.zero_le _, Nat.le_refl _, ⟨t.length + 1, by omega, by simp⟩, World.ownsRow_nil _ _ _ _, Below.refl _ _⟩)

end Go.Proofs.YtlacmcedpphphaaDoor
