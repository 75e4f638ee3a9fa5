/- The specification's text of a rule. -/
import Derived.Test.YtjgilpkkfpbefaaGreatDoorJn1
import Derived.Lib.ItoaMem
import Derived.Lib.ItoaNum
import Derived.Laws.BytesArg
import Derived.Deep.RegionWith
namespace Go.Proofs.YtjgilpkkfpbefaaGreatDoor
open Go.RowKit Go.Shelf Go.Maps Go.WideMaps

def str (l : List UInt8) : ByteArray := ⟨l.toArray⟩

/-- A text of one byte, out of a slice of one. -/
theorem conv1 (c : Int) (W : World) (b cap : Nat) (h : W.cell? ⟨b, 0, none⟩ = some (.int .u8 c)) : (convert 174 9 (.slice (some ⟨b, 0, none⟩) 1 cap)).run Tryz.prog W = .ok (.string (str [UInt8.ofNat c.toNat])) W := by
  have := run_convert_bytes_arg W 174 5 Tryz.underlying174 Tryz.underlying5 b 0 1 cap [c] rfl (fun i hi => by
    obtain rfl : i = 0 := by omega
    simpa using h) 9 Tryz.underlying9
  rw [this]
  rfl
theorem conv1_new (c : Int) (W : World) (t : TypeId) (cap : Nat) : (convert 174 9 (.slice (some ⟨W.heap.size, 0, none⟩) 1 cap)).run Tryz.prog (W.alloc (.cells #[.int .u8 c] t)) = .ok (.string (str [UInt8.ofNat c.toNat])) (W.alloc (.cells #[.int .u8 c] t)) :=
  conv1 c _ _ cap (new1 W (.int .u8 c) t).1

theorem byte_kept {w w2 : World} {c : Int} {t : TypeId} (hb : Below (w.alloc (.cells #[.int .u8 c] t)).drew.heap.size (w.alloc (.cells #[.int .u8 c] t)).drew w2) : w2.cell? ⟨w.heap.size, 0, none⟩ = some (.int .u8 c) :=
  (hb.cell (p := ⟨w.heap.size, 0, none⟩) (by simp)).trans (new1 w (.int .u8 c) t).1

theorem str_append (a b : List UInt8) : str a ++ str b = str (a ++ b) := by
  apply ByteArray.ext
  simp [str]
theorem digits_len (q : Nat) (h : q ≤ 1000000000) : (Lib.decDigits q).length ≤ 10 := by
  have key : ∀ k q : Nat, q < 10 ^ k → 1 ≤ k → (Lib.decDigits q).length ≤ k := by
    intro k
    induction k with
    | zero => intro q _ h; omega
    | succ k ih =>
      intro q hq _
      rw [Lib.decDigits]
      split
      · simp
      · rw [List.length_append]
        have hk : 1 ≤ k := by
          rcases Nat.eq_zero_or_pos k with rfl | h
          · simp at hq; omega
          · exact h
        have := ih (q / 10) (by rw [Nat.pow_succ] at hq; omega) hk
        simp; omega
  exact key 10 q (by omega) (by omega)

set_option maxRecDepth 20000 in
set_option maxHeartbeats 1000000 in
theorem l2Digits_any (n : Nat) (hn : n ≤ 1000000000) : ∀ (w : World), Calls Tryz.prog 74 #[.int .i64 n] w fun e w' => e = .returned (.string (str (Lib.decDigits n))) ∧ Below w.heap.size w w' := by
  induction n using Nat.strongRecOn with
  | ind n ih =>
    intro w
    by_cases h : n < 10
    · rw [Lib.decDigits_one h]
      have hcv := conv1_new (48 + n) w 5 1
      have he : UInt8.ofNat (48 + (n : Int)).toNat = UInt8.ofNat (48 + n) := by congr 1
      rw [he] at hcv
      obtain ⟨ch, hch⟩ : ∃ c, c = UInt8.ofNat (48 + n) := ⟨_, rfl⟩
      rw [← hch] at hcv ⊢
      clear ih he hch
      go_enter Tryz.func74, Tryz.ntmps74
      go_wp2
      go_ret
      exact ⟨rfl, below_box _⟩
    · have ih' := ih (n / 10) (by omega) (by omega)
      have hd : Lib.decDigits n = Lib.decDigits (n / 10) ++ [UInt8.ofNat (48 + n % 10)] := by rw [Lib.decDigits, dif_neg h]
      obtain ⟨d, hdd⟩ : ∃ d, d = n % 10 := ⟨_, rfl⟩
      obtain ⟨q, hq⟩ : ∃ q, q = n / 10 := ⟨_, rfl⟩
      rw [hd, ← hq, ← hdd]
      rw [← hq] at ih'
      have a0 : IntKind.i64.wrap ((n : Int) / 10) = (q : Int) := by rw [IntWalk.i64_in _ (by omega)]; omega
      have a1 : (n : Int).tmod 10 = (d : Int) := by rw [Int.tmod_eq_emod_of_nonneg (by omega)]; omega
      have a2 : IntKind.i64.wrap (48 + (d : Int)) = 48 + (d : Int) := IntWalk.i64_in _ (by omega)
      have a3 : IntKind.u8.wrap (48 + (d : Int)) = 48 + (d : Int) := IntWalk.u8_in _ (by omega)
      obtain ⟨ch, hch⟩ : ∃ c, c = UInt8.ofNat (48 + d) := ⟨_, rfl⟩
      have HCV : Hid (∀ (W : World) (b : Nat), W.cell? ⟨b, 0, none⟩ = some (.int .u8 (48 + (d : Int))) → (convert 174 9 (.slice (some ⟨b, 0, none⟩) 1 1)).run Tryz.prog W = .ok (.string (str [ch])) W) := fun W b hW => by
        have := conv1 (48 + (d : Int)) W b 1 hW
        have he : UInt8.ofNat (48 + (d : Int)).toNat = UInt8.ofNat (48 + d) := by congr 1
        rw [he, ← hch] at this
        exact this
      have hcn : ∀ W : World, (convert 174 9 (.slice (some ⟨W.heap.size, 0, none⟩) 1 1)).run Tryz.prog (W.alloc (.cells #[.int .u8 (48 + (d : Int))] 5)) = .ok (.string (str [ch])) (W.alloc (.cells #[.int .u8 (48 + (d : Int))] 5)) := fun W => HCV.out _ _ (new1 W _ _).1
      have hcd : ∀ W : World, (convert 174 9 (.slice (some ⟨W.heap.size, 0, none⟩) 1 1)).run Tryz.prog (W.alloc (.cells #[.int .u8 (48 + (d : Int))] 5)).drew = .ok (.string (str [ch])) (W.alloc (.cells #[.int .u8 (48 + (d : Int))] 5)).drew := fun W => HCV.out _ _ (new1 W _ _).1
      rw [← hch]
      obtain ⟨qs, hqs⟩ : ∃ l, l = Lib.decDigits q := ⟨_, rfl⟩
      rw [← hqs] at ih' ⊢
      have hql : qs.length ≤ 10 := by rw [hqs]; exact digits_len q (by omega)
      have hap : str qs ++ str [ch] = str (qs ++ [ch]) := str_append _ _
      have hsz1 : (str qs).size ≤ 10 := hql
      have hsz2 : (str [ch]).size = 1 := rfl
      clear ih hd hch hqs hq hdd
      go_enter Tryz.func74, Tryz.ntmps74
      go_wp2
      go_region_with (first | (go_at_call 74; refine (ih' _).mono ?_; rintro e w2 ⟨rfl, hb2⟩; (first | (have hcw := HCV.out w2 w.heap.size (byte_kept hb2)) | skip)))
      all_goals
        go_wp2
        go_ret
      all_goals refine ⟨rfl, ?_⟩
      all_goals first | exact ((Below.refl w.heap.size w).drew.trans hb2).trans ((below_box _).mono hb2.size) | exact (below_box (.cells #[.int .u8 (48 + (d : Int))] 5)).drew.trans (hb2.mono (by simp))

end Go.Proofs.YtjgilpkkfpbefaaGreatDoor
