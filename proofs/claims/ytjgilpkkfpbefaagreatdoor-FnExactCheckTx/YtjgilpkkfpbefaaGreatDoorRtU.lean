/- What RuleText answers: the specification's and the program's. -/
import Derived.Test.YtjgilpkkfpbefaaGreatDoorRtI
import Derived.Test.YtjgilpkkfpbefaaGreatDoorJn1
namespace Go.Proofs.YtjgilpkkfpbefaaGreatDoor
open Go.RowKit Go.Shelf Go.Maps Go.WideMaps

theorem ruleR_zero {l : List Int} {x y : Int} {n : Nat} (hn : l.length = n) (h : ruleR l x y = 0) : (1 ≤ n ∧ n ≤ 3) ∧ (1 ≤ x ∧ x ≤ 3) ∧ (0 ≤ y ∧ y ≤ 999) ∧ ∀ k ∈ l, 1 ≤ k ∧ k ≤ 999 := by
  unfold ruleR at h
  by_cases h1 : inB l.length 1 3 = false
  · rw [if_pos h1] at h; cases h
  rw [if_neg h1] at h
  by_cases h2 : allK l = false ∨ inB x 1 l.length = false ∨ inB y 0 999 = false
  · rw [if_pos h2] at h; cases h
  have a1 := inB_true.1 (show inB l.length 1 3 = true by simpa using h1)
  have a2 : allK l = true := by cases e : allK l; exact absurd (.inl e) h2; rfl
  have a3 := inB_true.1 (show inB x 1 l.length = true by cases e : inB x 1 l.length; exact absurd (.inr (.inl e)) h2; rfl)
  have a4 := inB_true.1 (show inB y 0 999 = true by cases e : inB y 0 999; exact absurd (.inr (.inr e)) h2; rfl)
  refine ⟨by omega, by omega, a4, fun k hk => ?_⟩
  unfold allK at a2
  exact inB_true.1 (List.all_eq_true.1 a2 k hk)

def rtR (l : List Int) (x y : Int) : Int × List UInt8 := if ruleR l x y ≠ 0 then (ruleR l x y, []) else (0, rtxR l x y)

set_option maxRecDepth 20000 in
set_option maxHeartbeats 2000000 in
theorem iRuleText_any (n cap : Nat) (a : Option Addr) (l : List Int) (x y : Int) (w : World) (hl : n ≤ 1048576) (hI : IAt w a n l) (hTb : Tb w) :
    Calls Tryz.prog 158 #[.agg #[.slice a n cap, .int .i64 x, .int .i64 y]] w fun e w' => e = .returned (.agg #[.int .i64 (rtR l x y).1, .string (str (rtR l x y).2)]) ∧ Below w.heap.size w w' := by
  have hbx : Below w.heap.size w ((w.alloc (.cells #[.slice a n cap, .int .i64 x, .int .i64 y] 82)).alloc (.cells #[.int .i64 0, .string ByteArray.empty] 74)) := below_box2 _ _
  have T0 := show Hid (((w.alloc (.cells #[.slice a n cap, .int .i64 x, .int .i64 y] 82)).alloc (.cells #[.int .i64 0, .string ByteArray.empty] 74)).heap[w.heap.size]? = some (.cells #[.slice a n cap, .int .i64 x, .int .i64 y] 82 (0, 0))) from block_at2
  have T1 := show Hid (((w.alloc (.cells #[.slice a n cap, .int .i64 x, .int .i64 y] 82)).alloc (.cells #[.int .i64 0, .string ByteArray.empty] 74)).heap[w.heap.size + 1]? = some (.cells #[.int .i64 0, .string ByteArray.empty] 74 (0, 0))) from heap_alloc_at _ _ _ (by simp)
  have hF := iRuleFault_any n cap a l x y ((w.alloc (.cells #[.slice a n cap, .int .i64 x, .int .i64 y] 82)).alloc (.cells #[.int .i64 0, .string ByteArray.empty] 74)) hl (hI.below hbx (Nat.le_refl _))
  have HBX : Hid (Below w.heap.size w ((w.alloc (.cells #[.slice a n cap, .int .i64 x, .int .i64 y] 82)).alloc (.cells #[.int .i64 0, .string ByteArray.empty] 74))) := hbx
  have HI : Hid (IAt w a n l) := hI
  have HN : Hid (l.length = n) := hI.1
  have HTB : Hid (Tb w) := hTb
  obtain ⟨cd, hcd⟩ : ∃ c, c = ruleR l x y := ⟨_, rfl⟩
  rw [← hcd] at hF
  clear hbx hI hTb
  by_cases hz : cd = 0
  · subst hz
    have hr : rtR l x y = (0, rtxR l x y) := by unfold rtR; rw [← hcd, if_neg (by simp)]
    rw [hr]
    obtain ⟨b1, b2, b3, b4⟩ := ruleR_zero HN.out hcd.symm
    have hkk : ∀ k ∈ l, 0 ≤ k ∧ k ≤ 999 := fun k hk => by have := b4 k hk; omega
    have hl3 : l.length ≤ 3 := by rw [HN.out]; exact b1.2
    obtain ⟨dx, hdx⟩ : ∃ o, o = dec x := ⟨_, rfl⟩
    obtain ⟨dy, hdy⟩ : ∃ o, o = dec y := ⟨_, rfl⟩
    obtain ⟨ks, hks⟩ : ∃ o, o = keysT l := ⟨_, rfl⟩
    have hlx : dx.length ≤ 10 := by rw [hdx]; exact dec_len (by omega)
    have hly : dy.length ≤ 10 := by rw [hdy]; exact dec_len b3.2
    have hlk : ks.length ≤ 100 := by rw [hks]; exact keys_len hl3 hkk
    have HWX : Hid (∀ v, Below w.heap.size w v → Calls Tryz.prog 146 #[.int .i64 x] v fun e w' => e = .returned (.string (str dx)) ∧ Below v.heap.size v w') := fun v hv => by rw [hdx]; exact writeNumber_any (by omega) (by omega) v (HTB.out.below hv (Nat.le_refl _))
    have HWY : Hid (∀ v, Below w.heap.size w v → Calls Tryz.prog 146 #[.int .i64 y] v fun e w' => e = .returned (.string (str dy)) ∧ Below v.heap.size v w') := fun v hv => by rw [hdy]; exact writeNumber_any b3.1 b3.2 v (HTB.out.below hv (Nat.le_refl _))
    have HJN : Hid (∀ v, Below w.heap.size w v → Calls Tryz.prog 166 #[.func (.func 142) #[] #[.pointer (some ⟨v.heap.size, 0, none⟩)], .string ⟨#[44]⟩] (v.alloc (.cells #[.slice a n cap, .int .i64 x, .int .i64 y] 82)) fun e w' => e = .returned (.string (str ks)) ∧ Below v.heap.size v w') := fun v hv => by
      rw [hks]
      have hb := below_box (w := v) (.cells #[.slice a n cap, .int .i64 x, .int .i64 y] 82)
      have hbb := hv.trans (hb.mono hv.size)
      exact (joinNumbers_any v.heap.size n cap a l w _ b1.2 hkk HI.out hbb (by simp) (cells3 (heap_alloc_new v _)).1 (HTB.out.below hbb (Nat.le_refl _))).mono fun e w' ⟨e1, e2⟩ => ⟨e1, hb.trans (e2.mono (by simp))⟩
    have hof : ∀ q : List UInt8, str q ++ ⟨#[32, 111, 102, 32]⟩ = str (q ++ [32, 111, 102, 32]) := fun q => str_append q _
    have haf : ∀ q : List UInt8, (⟨#[32, 97, 102, 116, 101, 114, 32]⟩ : ByteArray) ++ str q = str (32 :: 97 :: 102 :: 116 :: 101 :: 114 :: 32 :: q) := fun q => str_append [32, 97, 102, 116, 101, 114, 32] q
    have happ : ∀ q r : List UInt8, str q ++ str r = str (q ++ r) := str_append
    have hss : ∀ q : List UInt8, (str q).size = q.length := fun _ => rfl
    have hz1 : ¬ 9223372036854775807 < dx.length + 4 := by omega
    have hz2 : ¬ 9223372036854775807 < dx.length + 4 + ks.length := by omega
    obtain ⟨rt, hrt⟩ : ∃ r, r = rtxR l x y := ⟨_, rfl⟩
    have HRT : Hid (rt = dx ++ [32, 111, 102, 32] ++ ks ++ (if y = 0 then [] else [32, 97, 102, 116, 101, 114, 32] ++ dy)) := by show _ = _; rw [hrt, hdx, hks, hdy]; rfl
    simp only
    rw [← hrt]
    clear hr hcd hdx hdy hks hrt b1 b2 b3 b4 hkk hl3
    go_enter Tryz.func158, Tryz.ntmps158
    go_wp2_with (first
      | (go_at_call 109; refine hF.mono ?_; clear hF; rintro e w2 ⟨rfl, hb2⟩; have HBW : Hid (Below w.heap.size w w2) := HBX.out.trans (hb2.mono (by simp; omega)); have HT2 := keepb T1.out hb2; have HP2 := keepb T0.out hb2; obtain ⟨p0, p1, p2⟩ := cells3 HP2.out; clear hb2))
    have hPl := lt_of_block HP2.out
    have hwx := HWX.out w2.drew (HBW.out.trans ((Below.refl _ _).drew.mono HBW.out.size))
    go_region_held3 (fun w' => w'.cell? ⟨w.heap.size, 0, none⟩ = some (.slice a n cap) ∧ w'.cell? ⟨w.heap.size, 1, none⟩ = some (.int .i64 x) ∧ w'.cell? ⟨w.heap.size, 2, none⟩ = some (.int .i64 y)) (go_keep)
      (first
        | (go_at_call 146; refine hwx.mono ?_; clear hwx; rintro e w3 ⟨rfl, hb3⟩; have HB3 : Hid (Below w2.heap.size w2 w3) := (Below.refl _ _).drew.trans hb3; have HB3w : Hid (Below w.heap.size w w3) := HBW.out.trans (HB3.out.mono HBW.out.size); obtain ⟨z0, z1, z2⟩ := cells3 (keepb HP2.out HB3.out).out; have hl3 := lt_of_block (keepb HP2.out HB3.out).out; have hjn := HJN.out w3 HB3w.out; clear hb3)
        | (go_at_call 127; refine (eachKey_any _ _ _ _ _ _).mono ?_; rintro e w4 ⟨rfl, hw4⟩; rw [← hw4] at hjn; have hb4 : Below w3.heap.size w3 w4 := (by rw [hw4]; exact below_box _); clear hw4; obtain ⟨y0, y1, y2⟩ := cells3 (keepb (keepb HP2.out HB3.out).out hb4).out)
        | (go_at_call 166; refine hjn.mono ?_; clear hjn; rintro e w5 ⟨rfl, hb5⟩; have HB5w : Hid (Below w.heap.size w w5) := HB3w.out.trans (hb5.mono HB3w.out.size); have HP5 := keepb (keepb HP2.out HB3.out).out hb5; have HT5 := keepb (keepb HT2.out HB3.out).out hb5; obtain ⟨u0, u1, u2⟩ := cells3 HP5.out))
    obtain ⟨o1, ho1⟩ : ∃ o, o = dx ++ 32 :: 111 :: 102 :: 32 :: ks := ⟨_, rfl⟩
    have hlo : o1.length ≤ 114 := by rw [ho1]; simp; omega
    have HRT2 : Hid (rt = o1 ++ (if y = 0 then [] else [32, 97, 102, 116, 101, 114, 32] ++ dy)) := by show _ = _; rw [HRT.out, ho1]; simp
    rw [← ho1]
    clear ho1 p0 p1 p2 z0 z1 z2 y0 y1 y2 hb4 hb5 HRT hz1 hz2 hof HJN HWX
    have hwy := HWY.out w5 HB5w.out
    obtain ⟨q0, q1, q2, q3, HR5⟩ := res_cells HT5.out (Below.refl _ w5) (lt_of_block HT5.out)
    by_cases hy0 : y = 0
    · subst hy0
      obtain rfl : rt = o1 := by rw [HRT2.out]; simp
      go_wp2
      obtain ⟨s0, s1, s2⟩ := two_set HR5.out (.int .i64 0) (.string (str rt))
      exact bodyPost_ret (v := .agg #[.int .i64 0, .string (str rt)]) (by simp [results, Tryz.results158, go_sem, s0, s1]) rfl ⟨rfl, below_res HB5w.out _ _⟩
    · have hyb : (y == 0) = false := by simpa using hy0
      have hz1 : ¬ 9223372036854775807 < 7 + dy.length := by omega
      have hz3 : ¬ 9223372036854775807 < dy.length + 7 := by omega
      have hz2 : ¬ 9223372036854775807 < o1.length + (dy.length + 7) := by omega
      have hz4 : ¬ 9223372036854775807 < o1.length + (7 + dy.length) := by omega
      have happ2 : str o1 ++ str (32 :: 97 :: 102 :: 116 :: 101 :: 114 :: 32 :: dy) = str rt := by rw [str_append, HRT2.out, if_neg hy0]; rfl
      clear q0 q1 q2 q3 happ HRT2
      go_wp2_with (go_at_call 146; refine hwy.mono ?_; rintro e w6 ⟨rfl, hb6⟩; obtain ⟨q0, q1, q2, q3, HR6⟩ := res_cells HT5.out hb6 (lt_of_block HT5.out))
      obtain ⟨s0, s1, s2⟩ := two_set HR6.out (.int .i64 0) (.string (str rt))
      exact bodyPost_ret (v := .agg #[.int .i64 0, .string (str rt)]) (by simp [results, Tryz.results158, go_sem, s0, s1]) rfl ⟨rfl, below_res (HB5w.out.trans (hb6.mono HB5w.out.size)) _ _⟩
  · have hr : rtR l x y = (cd, []) := by unfold rtR; rw [← hcd, if_pos hz]
    rw [hr]
    clear hr hcd
    go_enter Tryz.func158, Tryz.ntmps158
    go_wp2_with (first
      | (go_at_call 109; refine hF.mono ?_; rintro e w2 ⟨rfl, hb2⟩; obtain ⟨q0, q1, q2, q3, HR⟩ := res_cells T1.out hb2 (by simp); have HBW : Hid (Below w.heap.size w w2) := HBX.out.trans (hb2.mono (by simp; omega)); clear hb2))
    obtain ⟨s0, s1, s2⟩ := two_set HR.out (.int .i64 cd) (.string ⟨#[]⟩)
    exact bodyPost_ret (v := .agg #[.int .i64 cd, .string ⟨#[]⟩]) (by simp [results, Tryz.results158, go_sem, s0, s1]) rfl ⟨rfl, below_res HBW.out _ _⟩

end Go.Proofs.YtjgilpkkfpbefaaGreatDoor
