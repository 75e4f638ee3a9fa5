/- A rule is read: what it comes to, without a world. -/
import Derived.Test.YtlcdhhaikhieiaaDoorX3
import Derived.Lib.IndexMore
import Derived.Lib.ParseIntBTie
namespace Go.Proofs.YtlcdhhaikhieiaaDoor
open Go.RowKit Go.Shelf Go.Maps Go.WideMaps

theorem index_at {c : UInt8} {tl r : List UInt8} : ∀ {p : List UInt8}, c ∉ p → Lib.index (p ++ (c :: tl) ++ r) (c :: tl) = p.length
  | [], _ => by
    show Lib.index (c :: (tl ++ r)) (c :: tl) = 0
    unfold Lib.index
    rw [if_pos]
    simp [List.isPrefixOf]
  | b :: t, h => by
    have h1 : ¬ c = b := fun e => h (by rw [e]; exact List.mem_cons_self ..)
    have ih := index_at (tl := tl) (r := r) (p := t) (fun e => h (List.mem_cons_of_mem _ e))
    show Lib.index (b :: (t ++ (c :: tl) ++ r)) (c :: tl) = _
    unfold Lib.index
    rw [if_neg (by simp [List.isPrefixOf, h1]), ih, if_neg (by simp <;> omega)]
    simp
theorem index_no {c : UInt8} {tl : List UInt8} : ∀ {p : List UInt8}, c ∉ p → Lib.index p (c :: tl) = -1
  | [], _ => rfl
  | b :: t, h => by
    have h1 : ¬ c = b := fun e => h (by rw [e]; exact List.mem_cons_self ..)
    have ih := index_no (tl := tl) (p := t) (fun e => h (List.mem_cons_of_mem _ e))
    unfold Lib.index
    rw [if_neg (by simp [List.isPrefixOf, h1]), ih, if_pos (by decide)]
end Go.Proofs.YtlcdhhaikhieiaaDoor
