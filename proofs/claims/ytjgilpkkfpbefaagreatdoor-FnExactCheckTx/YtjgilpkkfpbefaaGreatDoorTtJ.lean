/- The words of a transaction, joined, are its text. -/
import Derived.Test.YtjgilpkkfpbefaaGreatDoorTtT
import Derived.Lib.Join
namespace Go.Proofs.YtjgilpkkfpbefaaGreatDoor
open Go.RowKit

theorem join_flat (a : List UInt8) (t : List (List UInt8)) (sep : List UInt8) : Lib.join (a :: t) sep = a ++ t.flatMap fun x => sep ++ x := by
  unfold Lib.join
  induction t generalizing a with
  | nil => simp [List.intercalate]
  | cons b t ih =>
    have e : List.intercalate sep (a :: b :: t) = a ++ (sep ++ List.intercalate sep (b :: t)) := by simp [List.intercalate, List.intersperse]
    rw [e, ih b]
    simp

def outW (o : Ou) : List UInt8 := dec o.v ++ (61 :: (rtxR o.l o.x o.y).map swp)
def kindW (k f : Int) : List (List UInt8) := if k = 0 then [[112, 97, 121]] else if k = 1 then [[106, 111, 105, 110], dec f] else [[108, 101, 97, 118, 101], dec f]
def refsW (rs : List (Int × Int)) : List UInt8 := Lib.join (rs.map refT) [43]
def wordsT (k f : Int) (rs : List (Int × Int)) (os : List Ou) : List (List UInt8) := kindW k f ++ (refsW rs :: os.map outW)

theorem refsW_refsT {rs : List (Int × Int)} (h : rs ≠ []) : 32 :: refsW rs = refsT rs := by
  cases rs with
  | nil => exact absurd rfl h
  | cons r t =>
    unfold refsW refsT
    rw [List.map_cons, join_flat, List.flatMap_map]
    rfl
theorem join_words {k f : Int} {rs : List (Int × Int)} {os : List Ou} (hk : k = 0 ∨ k = 1 ∨ k = 2) (hr : rs ≠ []) : Lib.join (wordsT k f rs os) [32] = txT k f rs os := by
  have e := refsW_refsT hr
  have e2 : (os.map outW).flatMap (fun x => 32 :: x) = os.flatMap outT := by rw [List.flatMap_map]; rfl
  rcases hk with rfl | rfl | rfl <;> simp [wordsT, kindW, join_flat, txT, headT, kindT, ← e, e2]

end Go.Proofs.YtjgilpkkfpbefaaGreatDoor
