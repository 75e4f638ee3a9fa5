/- BlockIn: the specification's and the program's. -/
import Derived.Test.YtlacmcedpphphaaGreatDoorTextOf
import Derived.Test.YtlacmcedpphphaaGreatDoorGk
namespace Go.Proofs.YtlacmcedpphphaaGreatDoor
open Go.RowKit Go.Shelf Go.Maps Go.WideMaps

def bin2R (c : Int) (t : List UInt8) : Int × (Int × Int × Int × List Int) := if c ≠ 0 then (c, (0, 0, 0, [])) else pbR t
def binR (ss : List ByteArray) (gs : List (Int × Int)) (id : Int) : Int × (Int × Int × Int × List Int) := bin2R (textR ss gs id).1 (textR ss gs id).2.data.toList
theorem bin2R_len (c : Int) (t : List UInt8) : (bin2R c t).2.2.2.2.length ≤ 6 := by
  unfold bin2R
  by_cases h : c ≠ 0
  · rw [if_pos h]; simp
  · rw [if_neg h]; exact pbR_len t
theorem bin2R_bad {c : Int} {t : List UInt8} (h : ¬ c = 0) : bin2R c t = (c, (0, 0, 0, [])) := by unfold bin2R; rw [if_pos h]
theorem bin2R_ok {t : List UInt8} : bin2R 0 t = pbR t := by unfold bin2R; rw [if_neg (by simp)]
/-- What an answer with a block is owed. -/
def OutBn (w w' : World) (e : Ending) (r : Int × (Int × Int × Int × List Int)) : Prop := Below w.heap.size w w' ∧ ∃ (va : Option Addr) (vc : Nat), e = .returned (.agg #[.int .i64 r.1, .int .i64 r.2.1, .int .i64 r.2.2.1, .int .i64 r.2.2.2.1, .slice va r.2.2.2.2.length vc]) ∧ w'.ownsRow w.heap.size 2 1 (.slice va r.2.2.2.2.length vc) r.2.2.2.2.length (ints r.2.2.2.2)
theorem tx2R_len {ss : List ByteArray} {n : Nat} (id : Int) (hn : ss.length = n) (hz : ∀ j, j < n → (ss.getD j E0).size ≤ 1048576) : (tx2R ss id).2.data.toList.length ≤ 1048576 := by
  unfold tx2R
  by_cases h : inB id 1 ss.length = false
  · rw [if_pos h]; simp
  · rw [if_neg h]
    have h1 : inB id 1 ss.length = true := by simpa using h
    have h2 := inB_true.1 h1
    exact hz (id - 1).toNat (by omega)
theorem textR_len {ss : List ByteArray} {gs : List (Int × Int)} {n : Nat} (id : Int) (hn : ss.length = n) (hz : ∀ j, j < n → (ss.getD j E0).size ≤ 1048576) : (textR ss gs id).2.data.toList.length ≤ 1048576 := by
  unfold textR
  by_cases h : flt ss gs ≠ 0
  · rw [if_pos h]; simp
  · rw [if_neg h]; exact tx2R_len id hn hz
theorem readG_ok {v : World} {n m tc gc : Nat} {ta ga : Option Addr} {ss : List ByteArray} {gs : List (Int × Int)} (hf : Fine ss gs) (h : LedAt v ta n ga m ss gs) (h0 : 0 = flt ss gs) :
    Calls Tryz.prog 19 #[.agg #[.slice ta n tc, .slice ga m gc]] v fun e w' => ∃ p q, e = .returned (.tuple #[.agg #[.pointer (some ⟨p, 0, none⟩), .pointer (some ⟨q, 0, none⟩)], .int .i64 0]) ∧ Below v.heap.size v w' ∧ Hid (TwS w' v.heap.size p ss) := by
  refine (readLedger_any n m tc gc ta ga ss gs v hf.s hf.g h.s h.g).mono fun e w' hr => ?_
  rcases hr with ⟨hbl, ⟨_, p, q, top, he, h1, _⟩ | ⟨hn, _⟩⟩
  · exact ⟨p, q, he, hbl, h1⟩
  · exact absurd h0.symm hn
theorem readG_bad {v : World} {n m tc gc : Nat} {ta ga : Option Addr} {ss : List ByteArray} {gs : List (Int × Int)} {c : Int} (hf : Fine ss gs) (h : LedAt v ta n ga m ss gs) (hc : c = flt ss gs) (h0 : ¬ c = 0) :
    Calls Tryz.prog 19 #[.agg #[.slice ta n tc, .slice ga m gc]] v fun e w' => e = .returned (.tuple #[.agg #[.pointer none, .pointer none], .int .i64 c]) ∧ Below v.heap.size v w' := by
  refine (readLedger_any n m tc gc ta ga ss gs v hf.s hf.g h.s h.g).mono fun e w' hr => ?_
  rcases hr with ⟨hbl, ⟨hn, _⟩ | ⟨_, he⟩⟩
  · exact absurd (hc.trans hn) h0
  · exact ⟨by rw [hc]; exact he, hbl⟩

set_option maxRecDepth 20000 in
set_option maxHeartbeats 4000000 in
theorem sBlockIn_any (n m tc gc : Nat) (ta ga : Option Addr) (ss : List ByteArray) (gs : List (Int × Int)) (id : Int) (w : World) (htc : n ≤ tc) (hgc : m ≤ gc) (htm : tc ≤ maxLen) (hgm : gc ≤ maxLen) (hf : Fine ss gs) (hz : ∀ j, j < n → (ss.getD j E0).size ≤ 1048576) (h : LedAt w ta n ga m ss gs) :
    Calls Tryz.prog 5 #[.agg #[.slice ta n tc, .slice ga m gc], .int .i64 id] w fun e w' => OutBn w w' e (binR ss gs id) := by
  unfold binR
  obtain ⟨rc, hrc⟩ : ∃ x, x = (textR ss gs id).1 := ⟨_, rfl⟩
  obtain ⟨t, ht⟩ : ∃ x, x = (textR ss gs id).2.data.toList := ⟨_, rfl⟩
  have hst : (textR ss gs id).2 = str t := by rw [ht]; rfl
  have htl : t.length ≤ 1048576 := by rw [ht]; exact textR_len id h.s.1 hz
  rw [← hrc, ← ht]
  have hX := sTextOf_any n m tc gc ta ga ss gs id ((w.alloc (.cells #[.slice ta n tc, .slice ga m gc] 35)).alloc (.cells #[.int .i64 0, .int .i64 0, .int .i64 0, .int .i64 0, .slice none 0 0] 31)) htc hgc htm hgm hf (h.below (below_box2 _ _) (Nat.le_refl _))
  rw [← hrc, hst] at hX
  clear hrc ht hst h hf hz htc hgc htm hgm
  have hbx : Below w.heap.size w ((w.alloc (.cells #[.slice ta n tc, .slice ga m gc] 35)).alloc (.cells #[.int .i64 0, .int .i64 0, .int .i64 0, .int .i64 0, .slice none 0 0] 31)) := below_box2 _ _
  have R1 : Hid (((w.alloc (.cells #[.slice ta n tc, .slice ga m gc] 35)).alloc (.cells #[.int .i64 0, .int .i64 0, .int .i64 0, .int .i64 0, .slice none 0 0] 31)).heap[w.heap.size + 1]? = some (.cells #[.int .i64 0, .int .i64 0, .int .i64 0, .int .i64 0, .slice none 0 0] 31 (0, 0))) := heap_alloc_at _ _ _ (by simp)
  have HBX : Hid (Below w.heap.size w ((w.alloc (.cells #[.slice ta n tc, .slice ga m gc] 35)).alloc (.cells #[.int .i64 0, .int .i64 0, .int .i64 0, .int .i64 0, .slice none 0 0] 31))) := hbx
  clear hbx
  by_cases h0 : rc = 0
  · subst h0
    rw [bin2R_ok]
    obtain ⟨⟨cd, bp, bh, bm, res⟩, hr⟩ : ∃ q, q = pbR t := ⟨_, rfl⟩
    have HPB : Hid (∀ v, Below w.heap.size w v → Calls Tryz.prog 16 #[.string (str t)] v fun e w' => ∃ va vc, e = .returned (.agg #[.int .i64 cd, .int .i64 bp, .int .i64 bh, .int .i64 bm, .slice va res.length vc]) ∧ Hid (World.ownsRow w' v.heap.size 2 1 (.slice va res.length vc) res.length (ints res)) ∧ Hid (Below v.heap.size v w')) := fun v hv => (sParseBlock_any t v htl).mono fun e w' ⟨hb, va, vc, e1, hO⟩ => ⟨va, vc, by rw [e1, ← hr], by rw [← hr] at hO; exact hO, hb⟩
    rw [← hr]
    clear hr
    go_enter Tryz.func5, Tryz.ntmps5
    go_wp2_with (first
      | (go_at_call 15; (with_reducible refine hX.mono ?_); clear hX; rintro e w2 ⟨rfl, hb2⟩; have hbT := below_box (w := w2) (.cells #[.int .i64 0, .string (str t)] 45); have HB3 : Hid (Below w.heap.size w (w2.alloc (.cells #[.int .i64 0, .string (str t)] 45))) := (HBX.out.trans (hb2.mono HBX.out.size)).trans (hbT.mono (Nat.le_trans HBX.out.size hb2.size)); have HR3 : Hid ((w2.alloc (.cells #[.int .i64 0, .string (str t)] 45)).heap[w.heap.size + 1]? = some (.cells #[.int .i64 0, .int .i64 0, .int .i64 0, .int .i64 0, .slice none 0 0] 31 (0, 0))) := (keepb (keepb R1.out hb2).out hbT).out; have hP := HPB.out (w2.alloc (.cells #[.int .i64 0, .string (str t)] 45)) HB3.out; have HLT : Hid (w.heap.size + 1 < (w2.alloc (.cells #[.int .i64 0, .string (str t)] 45)).heap.size) := lt_of_block HR3.out; clear hb2 hbT)
      | (go_at_call 16; (with_reducible refine hP.mono ?_); clear hP; rintro e w3 ⟨va, vc, rfl, HO, HB3b⟩; have HB4 : Hid (Below w.heap.size w w3) := HB3.out.trans (HB3b.out.mono HB3.out.size); have HR4 := keepb HR3.out HB3b.out; obtain ⟨⟨r0, r1, r2, r3, r4⟩, f0, f1, f2, f3, f4⟩ := cells5 HR4.out))
    obtain ⟨j0, j1, j2, j3, j4⟩ := five_set HR4.out (.int .i64 cd) (.int .i64 bp) (.int .i64 bh) (.int .i64 bm) (.slice va res.length vc)
    refine bodyPost_ret (v := .agg #[.int .i64 cd, .int .i64 bp, .int .i64 bh, .int .i64 bm, .slice va res.length vc]) (by simp [results, Tryz.results5, go_sem, j0, j1, j2, j3, j4]) rfl ?_
    refine ⟨five_below HB4.out (Nat.le_succ _) _ _ _ _ _, va, vc, rfl, ?_⟩
    exact five_row HO.out HLT.out HB3.out.size _ _ _ _ _
  · rw [bin2R_bad h0]
    go_enter Tryz.func5, Tryz.ntmps5
    go_wp2_with (first
      | (go_at_call 15; (with_reducible refine hX.mono ?_); clear hX; rintro e w2 ⟨rfl, hb2⟩; have hbT := below_box (w := w2) (.cells #[.int .i64 rc, .string (str t)] 45); have HB4 : Hid (Below w.heap.size w (w2.alloc (.cells #[.int .i64 rc, .string (str t)] 45))) := (HBX.out.trans (hb2.mono HBX.out.size)).trans (hbT.mono (Nat.le_trans HBX.out.size hb2.size)); have HR4 : Hid ((w2.alloc (.cells #[.int .i64 rc, .string (str t)] 45)).heap[w.heap.size + 1]? = some (.cells #[.int .i64 0, .int .i64 0, .int .i64 0, .int .i64 0, .slice none 0 0] 31 (0, 0))) := (keepb (keepb R1.out hb2).out hbT).out; obtain ⟨⟨r0, r1, r2, r3, r4⟩, f0, f1, f2, f3, f4⟩ := cells5 HR4.out; clear hb2 hbT))
    obtain ⟨j0, j1, j2, j3, j4⟩ := five_set HR4.out (.int .i64 rc) (.int .i64 0) (.int .i64 0) (.int .i64 0) (.slice none 0 0)
    refine bodyPost_ret (v := .agg #[.int .i64 rc, .int .i64 0, .int .i64 0, .int .i64 0, .slice none 0 0]) (by simp [results, Tryz.results5, go_sem, j0, j1, j2, j3, j4]) rfl ?_
    exact ⟨five_below HB4.out (Nat.le_succ _) _ _ _ _ _, none, 0, rfl, World.ownsRow_nil _ _ _ _⟩

set_option maxRecDepth 20000 in
set_option maxHeartbeats 4000000 in
theorem bBlockIn_any (p q n ic : Nat) (ia : Option Addr) (ss : List ByteArray) (id : Int) (w : World) (hn60 : n ≤ 60) (hn : ss.length = n) (hI : w.cell? ⟨p, 0, none⟩ = some (.slice ia n ic)) (hS : SAt w ia n ss) (hp : p < w.heap.size) (hz : ∀ j, j < n → (ss.getD j E0).size ≤ 1048576) (hTb : Tb w) :
    Calls Tryz.prog 20 #[.agg #[.pointer (some ⟨p, 0, none⟩), .pointer (some ⟨q, 0, none⟩)], .int .i64 id] w fun e w' => OutBn w w' e (bin2R (tx2R ss id).1 (tx2R ss id).2.data.toList) := by
  obtain ⟨rc, hrc⟩ : ∃ x, x = (tx2R ss id).1 := ⟨_, rfl⟩
  obtain ⟨t, ht⟩ : ∃ x, x = (tx2R ss id).2.data.toList := ⟨_, rfl⟩
  have hst : (tx2R ss id).2 = str t := by rw [ht]; rfl
  have htl : t.length ≤ 1048576 := by rw [ht]; exact tx2R_len id hn hz
  rw [← hrc, ← ht]
  have hbB : Below w.heap.size w ((w.alloc (.cells #[.pointer (some ⟨p, 0, none⟩), .pointer (some ⟨q, 0, none⟩)] 53)).alloc (.cells #[.int .i64 0, .int .i64 0, .int .i64 0, .int .i64 0, .slice none 0 0] 31)) := below_box2 _ _
  have hX := bTextOf_any p q n ic ia ss id ((w.alloc (.cells #[.pointer (some ⟨p, 0, none⟩), .pointer (some ⟨q, 0, none⟩)] 53)).alloc (.cells #[.int .i64 0, .int .i64 0, .int .i64 0, .int .i64 0, .slice none 0 0] 31)) hn60 hn ((hbB.cell (p := ⟨p, 0, none⟩) hp).trans hI) (hS.below hbB (Nat.le_refl _)) (Nat.lt_of_lt_of_le hp hbB.size)
  rw [← hrc, hst] at hX
  have HTB : Hid (Tb w) := hTb
  clear hrc ht hst hI hS hp hz hTb hbB hn hn60
  have hbx : Below w.heap.size w ((w.alloc (.cells #[.pointer (some ⟨p, 0, none⟩), .pointer (some ⟨q, 0, none⟩)] 53)).alloc (.cells #[.int .i64 0, .int .i64 0, .int .i64 0, .int .i64 0, .slice none 0 0] 31)) := below_box2 _ _
  have R1 : Hid (((w.alloc (.cells #[.pointer (some ⟨p, 0, none⟩), .pointer (some ⟨q, 0, none⟩)] 53)).alloc (.cells #[.int .i64 0, .int .i64 0, .int .i64 0, .int .i64 0, .slice none 0 0] 31)).heap[w.heap.size + 1]? = some (.cells #[.int .i64 0, .int .i64 0, .int .i64 0, .int .i64 0, .slice none 0 0] 31 (0, 0))) := heap_alloc_at _ _ _ (by simp)
  have HBX : Hid (Below w.heap.size w ((w.alloc (.cells #[.pointer (some ⟨p, 0, none⟩), .pointer (some ⟨q, 0, none⟩)] 53)).alloc (.cells #[.int .i64 0, .int .i64 0, .int .i64 0, .int .i64 0, .slice none 0 0] 31))) := hbx
  clear hbx
  by_cases h0 : rc = 0
  · subst h0
    rw [bin2R_ok]
    obtain ⟨⟨cd, bp, bh, bm, res⟩, hr⟩ : ∃ q, q = pbR t := ⟨_, rfl⟩
    have HPB : Hid (∀ v, Below w.heap.size w v → Calls Tryz.prog 36 #[.string (str t)] v fun e w' => ∃ va vc, e = .returned (.agg #[.int .i64 cd, .int .i64 bp, .int .i64 bh, .int .i64 bm, .slice va res.length vc]) ∧ Hid (World.ownsRow w' v.heap.size 2 1 (.slice va res.length vc) res.length (ints res)) ∧ Hid (Below v.heap.size v w')) := fun v hv => (iParseBlock_any t v htl (HTB.out.below hv (Nat.le_refl _))).mono fun e w' ⟨hb, va, vc, e1, hO⟩ => ⟨va, vc, by rw [e1, ← hr], by rw [← hr] at hO; exact hO, hb⟩
    rw [← hr]
    clear hr
    go_enter Tryz.func20, Tryz.ntmps20
    go_wp2_with (first
      | (go_at_call 35; (with_reducible refine hX.mono ?_); clear hX; rintro e w2 ⟨rfl, hb2⟩; have hbT := below_box (w := w2) (.cells #[.int .i64 0, .string (str t)] 45); have HB3 : Hid (Below w.heap.size w (w2.alloc (.cells #[.int .i64 0, .string (str t)] 45))) := (HBX.out.trans (hb2.mono HBX.out.size)).trans (hbT.mono (Nat.le_trans HBX.out.size hb2.size)); have HR3 : Hid ((w2.alloc (.cells #[.int .i64 0, .string (str t)] 45)).heap[w.heap.size + 1]? = some (.cells #[.int .i64 0, .int .i64 0, .int .i64 0, .int .i64 0, .slice none 0 0] 31 (0, 0))) := (keepb (keepb R1.out hb2).out hbT).out; have hP := HPB.out (w2.alloc (.cells #[.int .i64 0, .string (str t)] 45)) HB3.out; have HLT : Hid (w.heap.size + 1 < (w2.alloc (.cells #[.int .i64 0, .string (str t)] 45)).heap.size) := lt_of_block HR3.out; clear hb2 hbT)
      | (go_at_call 36; (with_reducible refine hP.mono ?_); clear hP; rintro e w3 ⟨va, vc, rfl, HO, HB3b⟩; have HB4 : Hid (Below w.heap.size w w3) := HB3.out.trans (HB3b.out.mono HB3.out.size); have HR4 := keepb HR3.out HB3b.out; obtain ⟨⟨r0, r1, r2, r3, r4⟩, f0, f1, f2, f3, f4⟩ := cells5 HR4.out))
    obtain ⟨j0, j1, j2, j3, j4⟩ := five_set HR4.out (.int .i64 cd) (.int .i64 bp) (.int .i64 bh) (.int .i64 bm) (.slice va res.length vc)
    refine bodyPost_ret (v := .agg #[.int .i64 cd, .int .i64 bp, .int .i64 bh, .int .i64 bm, .slice va res.length vc]) (by simp [results, Tryz.results20, go_sem, j0, j1, j2, j3, j4]) rfl ?_
    refine ⟨five_below HB4.out (Nat.le_succ _) _ _ _ _ _, va, vc, rfl, ?_⟩
    exact five_row HO.out HLT.out HB3.out.size _ _ _ _ _
  · rw [bin2R_bad h0]
    go_enter Tryz.func20, Tryz.ntmps20
    go_wp2_with (first
      | (go_at_call 35; (with_reducible refine hX.mono ?_); clear hX; rintro e w2 ⟨rfl, hb2⟩; have hbT := below_box (w := w2) (.cells #[.int .i64 rc, .string (str t)] 45); have HB4 : Hid (Below w.heap.size w (w2.alloc (.cells #[.int .i64 rc, .string (str t)] 45))) := (HBX.out.trans (hb2.mono HBX.out.size)).trans (hbT.mono (Nat.le_trans HBX.out.size hb2.size)); have HR4 : Hid ((w2.alloc (.cells #[.int .i64 rc, .string (str t)] 45)).heap[w.heap.size + 1]? = some (.cells #[.int .i64 0, .int .i64 0, .int .i64 0, .int .i64 0, .slice none 0 0] 31 (0, 0))) := (keepb (keepb R1.out hb2).out hbT).out; obtain ⟨⟨r0, r1, r2, r3, r4⟩, f0, f1, f2, f3, f4⟩ := cells5 HR4.out; clear hb2 hbT))
    obtain ⟨j0, j1, j2, j3, j4⟩ := five_set HR4.out (.int .i64 rc) (.int .i64 0) (.int .i64 0) (.int .i64 0) (.slice none 0 0)
    refine bodyPost_ret (v := .agg #[.int .i64 rc, .int .i64 0, .int .i64 0, .int .i64 0, .slice none 0 0]) (by simp [results, Tryz.results20, go_sem, j0, j1, j2, j3, j4]) rfl ?_
    exact ⟨five_below HB4.out (Nat.le_succ _) _ _ _ _ _, none, 0, rfl, World.ownsRow_nil _ _ _ _⟩

set_option maxRecDepth 20000 in
set_option maxHeartbeats 4000000 in
theorem iBlockIn_any (n m tc gc : Nat) (ta ga : Option Addr) (ss : List ByteArray) (gs : List (Int × Int)) (id : Int) (w : World) (hf : Fine ss gs) (hz : ∀ j, j < n → (ss.getD j E0).size ≤ 1048576) (hTb : Tb w) (h : LedAt w ta n ga m ss gs) :
    Calls Tryz.prog 7 #[.agg #[.slice ta n tc, .slice ga m gc], .int .i64 id] w fun e w' => OutBn w w' e (binR ss gs id) := by
  have hbx : Below w.heap.size w ((w.alloc (.cells #[.slice ta n tc, .slice ga m gc] 35)).alloc (.cells #[.int .i64 0, .int .i64 0, .int .i64 0, .int .i64 0, .slice none 0 0] 31)) := below_box2 _ _
  have R1 : Hid (((w.alloc (.cells #[.slice ta n tc, .slice ga m gc] 35)).alloc (.cells #[.int .i64 0, .int .i64 0, .int .i64 0, .int .i64 0, .slice none 0 0] 31)).heap[w.heap.size + 1]? = some (.cells #[.int .i64 0, .int .i64 0, .int .i64 0, .int .i64 0, .slice none 0 0] 31 (0, 0))) := heap_alloc_at _ _ _ (by simp)
  have HBX : Hid (Below w.heap.size w ((w.alloc (.cells #[.slice ta n tc, .slice ga m gc] 35)).alloc (.cells #[.int .i64 0, .int .i64 0, .int .i64 0, .int .i64 0, .slice none 0 0] 31))) := hbx
  have HN : Hid (ss.length = n) := h.s.1
  have HTB : Hid (Tb w) := hTb
  have HZZ : Hid (∀ j, j < n → (ss.getD j E0).size ≤ 1048576) := hz
  obtain ⟨c, hc⟩ : ∃ c, c = flt ss gs := ⟨_, rfl⟩
  by_cases hcz : c = 0
  · subst hcz
    have hrd := readG_ok (tc := tc) (gc := gc) hf (h.below hbx (Nat.le_refl _)) hc
    have hn60 : n ≤ 60 := by have := flt_le hc; rw [HN.out] at this; omega
    unfold binR
    rw [textR_two hc]
    clear h hf hc hbx hz hTb
    obtain ⟨⟨cd, bp, bh, bm, res⟩, hr⟩ : ∃ q, q = bin2R (tx2R ss id).1 (tx2R ss id).2.data.toList := ⟨_, rfl⟩
    have HRR : Hid (bin2R (tx2R ss id).1 (tx2R ss id).2.data.toList = (cd, bp, bh, bm, res)) := hr.symm
    rw [← hr]
    clear hr
    go_enter Tryz.func7, Tryz.ntmps7
    go_wp2_with (first
      | (go_at_call 19; (with_reducible refine hrd.mono ?_); clear hrd; rintro e w2 ⟨p, q, rfl, hb2, HT⟩; have hbT := below_box (w := w2) (.cells #[.pointer (some ⟨p, 0, none⟩), .pointer (some ⟨q, 0, none⟩)] 53); have HB3 : Hid (Below w.heap.size w (w2.alloc (.cells #[.pointer (some ⟨p, 0, none⟩), .pointer (some ⟨q, 0, none⟩)] 53))) := (HBX.out.trans (hb2.mono HBX.out.size)).trans (hbT.mono (Nat.le_trans HBX.out.size hb2.size)); have HR3 : Hid ((w2.alloc (.cells #[.pointer (some ⟨p, 0, none⟩), .pointer (some ⟨q, 0, none⟩)] 53)).heap[w.heap.size + 1]? = some (.cells #[.int .i64 0, .int .i64 0, .int .i64 0, .int .i64 0, .slice none 0 0] 31 (0, 0))) := (keepb (keepb R1.out hb2).out hbT).out; obtain ⟨ia, ic, hI, HSA⟩ := tw_items (o := .cells #[.pointer (some ⟨p, 0, none⟩), .pointer (some ⟨q, 0, none⟩)] 53) HN.out HT.out; have hP0 := bBlockIn_any p q n ic ia ss id (w2.alloc (.cells #[.pointer (some ⟨p, 0, none⟩), .pointer (some ⟨q, 0, none⟩)] 53)) hn60 HN.out hI HSA.out (World.block_lt_of_cell? _ _ hI) HZZ.out (HTB.out.below HB3.out (Nat.le_refl _)); have hP : Calls Tryz.prog 20 #[.agg #[.pointer (some ⟨p, 0, none⟩), .pointer (some ⟨q, 0, none⟩)], .int .i64 id] (w2.alloc (.cells #[.pointer (some ⟨p, 0, none⟩), .pointer (some ⟨q, 0, none⟩)] 53)) fun e w' => ∃ va vc, e = .returned (.agg #[.int .i64 cd, .int .i64 bp, .int .i64 bh, .int .i64 bm, .slice va res.length vc]) ∧ Hid (World.ownsRow w' (w2.alloc (.cells #[.pointer (some ⟨p, 0, none⟩), .pointer (some ⟨q, 0, none⟩)] 53)).heap.size 2 1 (.slice va res.length vc) res.length (ints res)) ∧ Hid (Below (w2.alloc (.cells #[.pointer (some ⟨p, 0, none⟩), .pointer (some ⟨q, 0, none⟩)] 53)).heap.size (w2.alloc (.cells #[.pointer (some ⟨p, 0, none⟩), .pointer (some ⟨q, 0, none⟩)] 53)) w') := hP0.mono (fun e w' ⟨hb, va, vc, e1, hO⟩ => ⟨va, vc, by rw [e1, HRR.out], by rw [HRR.out] at hO; exact hO, hb⟩); have HLT : Hid (w.heap.size + 1 < (w2.alloc (.cells #[.pointer (some ⟨p, 0, none⟩), .pointer (some ⟨q, 0, none⟩)] 53)).heap.size) := lt_of_block HR3.out; clear hb2 hbT hI hP0)
      | (go_at_call 20; (with_reducible refine hP.mono ?_); clear hP; rintro e w3 ⟨va, vc, rfl, HO, HB3b⟩; have HB4 : Hid (Below w.heap.size w w3) := HB3.out.trans (HB3b.out.mono HB3.out.size); have HR4 := keepb HR3.out HB3b.out; obtain ⟨⟨r0, r1, r2, r3, r4⟩, f0, f1, f2, f3, f4⟩ := cells5 HR4.out))
    obtain ⟨j0, j1, j2, j3, j4⟩ := five_set HR4.out (.int .i64 cd) (.int .i64 bp) (.int .i64 bh) (.int .i64 bm) (.slice va res.length vc)
    refine bodyPost_ret (v := .agg #[.int .i64 cd, .int .i64 bp, .int .i64 bh, .int .i64 bm, .slice va res.length vc]) (by simp [results, Tryz.results7, go_sem, j0, j1, j2, j3, j4]) rfl ?_
    refine ⟨five_below HB4.out (Nat.le_succ _) _ _ _ _ _, va, vc, rfl, ?_⟩
    exact five_row HO.out HLT.out HB3.out.size _ _ _ _ _
  · have hrd := readG_bad (tc := tc) (gc := gc) hf (h.below hbx (Nat.le_refl _)) hc hcz
    have hbr : binR ss gs id = (c, (0, 0, 0, [])) := by unfold binR; rw [textR_bad hc hcz]; exact bin2R_bad hcz
    rw [hbr]
    clear h hf hc hbx hz hTb hbr
    go_enter Tryz.func7, Tryz.ntmps7
    go_wp2_with (first
      | (go_at_call 19; (with_reducible refine hrd.mono ?_); clear hrd; rintro e w2 ⟨rfl, hb2⟩; have hbT := below_box (w := w2) (.cells #[.pointer none, .pointer none] 53); have HB4 : Hid (Below w.heap.size w (w2.alloc (.cells #[.pointer none, .pointer none] 53))) := (HBX.out.trans (hb2.mono HBX.out.size)).trans (hbT.mono (Nat.le_trans HBX.out.size hb2.size)); have HR4 : Hid ((w2.alloc (.cells #[.pointer none, .pointer none] 53)).heap[w.heap.size + 1]? = some (.cells #[.int .i64 0, .int .i64 0, .int .i64 0, .int .i64 0, .slice none 0 0] 31 (0, 0))) := (keepb (keepb R1.out hb2).out hbT).out; obtain ⟨⟨r0, r1, r2, r3, r4⟩, f0, f1, f2, f3, f4⟩ := cells5 HR4.out; clear hb2 hbT))
    obtain ⟨j0, j1, j2, j3, j4⟩ := five_set HR4.out (.int .i64 c) (.int .i64 0) (.int .i64 0) (.int .i64 0) (.slice none 0 0)
    refine bodyPost_ret (v := .agg #[.int .i64 c, .int .i64 0, .int .i64 0, .int .i64 0, .slice none 0 0]) (by simp [results, Tryz.results7, go_sem, j0, j1, j2, j3, j4]) rfl ?_
    exact ⟨five_below HB4.out (Nat.le_succ _) _ _ _ _ _, none, 0, rfl, World.ownsRow_nil _ _ _ _⟩

end Go.Proofs.YtlacmcedpphphaaGreatDoor
