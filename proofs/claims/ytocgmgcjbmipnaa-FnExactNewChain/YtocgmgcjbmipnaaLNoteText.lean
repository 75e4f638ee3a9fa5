/- The law on NoteText answers true, whatever ledger and text come in, and writes nothing that was there. -/
import Derived.Test.YtocgmgcjbmipnaaINt
namespace Go.Proofs.Ytocgmgcjbmipnaa
open Go.RowKit Go.Maps Go.WideMaps

theorem sat_own {w : World} {base n c : Nat} {a : Option Addr} {ss : List ByteArray} (h : w.ownsRow base 9 1 (.slice a n c) n (ss.map Value.string)) (hn : ss.length = n) : SAt w a n ss := by
  rcases id h.2 with ⟨_, h0⟩ | ⟨g, cap, cur, e, _⟩
  · exact ⟨hn, .inl h0⟩
  · simp at e
    obtain ⟨rfl, rfl⟩ := e
    exact SAt.owned h hn
theorem gat_own {w : World} {base n c : Nat} {a : Option Addr} {gs : List (Int × Int)} (h : w.ownsRow base 71 2 (.slice a n c) n (gcells gs)) (hn : gs.length = n) : GAt w a n gs := by
  rcases id h.2 with ⟨_, h0⟩ | ⟨g, cap, cur, e, _⟩
  · exact ⟨hn, .inl h0⟩
  · simp at e
    obtain ⟨rfl, rfl⟩ := e
    exact GAt.owned h hn
theorem Own2.led {w : World} {lo hi c0 c1 : Nat} {a0 a1 : Option Addr} {ss : List ByteArray} {gs : List (Int × Int)} (h : Own2 w lo hi a0 ss.length c0 a1 gs.length c1 (ss.map Value.string) (gcells gs)) : LedAt w a0 ss.length a1 gs.length ss gs := ⟨sat_own h.t rfl, gat_own h.g rfl⟩
theorem own2_of {w : World} {lo c0 c1 n m : Nat} {a0 a1 : Option Addr} {xs ys : List Value} (h0 : w.ownsRow lo 9 1 (.slice a0 n c0) n xs) (h1 : w.ownsRow lo 71 2 (.slice a1 m c1) m ys) : Own2 w lo w.heap.size a0 n c0 a1 m c1 xs ys := ⟨h0, h1, fun b hb => (h0.lt b hb).2, fun b hb => (h1.lt b hb).2⟩
theorem OwnL.own2 {w : World} {base n m : Nat} {ss : List ByteArray} {gs : List (Int × Int)} {g0 k0 g1 k1 : Nat} (h : OwnL w base n m ss gs g0 k0 g1 k1) : Own2 w base w.heap.size (some ⟨g0, 0, none⟩) n k0 (some ⟨g1, 0, none⟩) m k1 (ss.map Value.string) (gcells gs) := own2_of h.1 h.2
theorem Bx.chg {w v v' : World} {ta ga : Option Addr} {n tc m gc lo hi : Nat} (h : Bx w v ta n tc ga m gc) (hc : Chg v v' lo hi) (hl : w.heap.size < lo) : Bx w v' ta n tc ga m gc :=
  ⟨hc.keep h.box (.inl hl), h.bel.trans (hc.below (by omega) h.bel.size)⟩


end Go.Proofs.Ytocgmgcjbmipnaa
