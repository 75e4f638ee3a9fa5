/- CheckTx at what was drawn. -/
import Derived.Test.YtagokfoimokniaaGreatDoorIg
import Derived.Test.YtagokfoimokniaaGreatDoorIl
import Derived.Test.YtagokfoimokniaaGreatDoorAc
import Derived.Test.YtagokfoimokniaaGreatDoorAd
namespace Go.Proofs.YtagokfoimokniaaGreatDoor
open Go.RowKit Go.Shelf Go.Maps Go.WideMaps

theorem own_capsM {V : World} {base sz k c : Nat} {e : TypeId} {a : Option Addr} {xs : List Value} (h : V.ownsRow base e sz (.slice a k c) k xs) : k ≤ c ∧ c ≤ maxLen := by
  rcases h.2 with ⟨q, h0⟩ | ⟨g, cap, cur, q, _, _, h1, h2, _⟩
  · injection q with _ _ e3
    rw [e3, h0]; exact ⟨Nat.le_refl _, Nat.zero_le _⟩
  · injection q with _ _ e3
    rw [e3]; exact ⟨h1, h2⟩
theorem COwn.lowM {w : World} {lo lo' hi n : Nat} {v : Value} {f : Nat → Co} {kv : Nat → Value} (h : COwn w lo hi v n f kv) (hle : lo' ≤ lo) : COwn w lo' hi v n f kv := by
  obtain ⟨xs, h1, h2⟩ := h.row
  exact ⟨⟨xs, Joins.ownsRow_le h1 hle, h2⟩, h.top, fun j hj => ⟨Joins.ownsRow_le (h.keys j hj).1 hle, (h.keys j hj).2⟩, h.apart⟩
section
variable {w V : World} {SB : Nat} {cn cc t LB : Nat} {ca : Option Addr} {ta : Option Addr} {n tc : Nat} {ga : Option Addr} {m gc : Nat} {ss : List ByteArray} {gs : List (Int × Int)} {z : Wr} {c0 c1 : Array Value}
theorem CkF.keys (h : CkF w V SB ca cn cc t LB ta n tc ga m gc ss gs z c0 c1) : ∀ j, j < z.cs.length → (z.cs.getD j C0).l.length ≤ 1048576 := fun j hj => by have := h.zc.2 j hj; omega
theorem CkF.outk (h : CkF w V SB ca cn cc t LB ta n tc ga m gc ss gs z c0 c1) : ∀ j, j < z.os.length → (z.os.getD j O0).l.length ≤ 1048576 := fun j hj => by have := h.zk.2.2 _ (getD_mem (d := O0) hj); omega
theorem iCheckTx_ck (h : CkF w V SB ca cn cc t LB ta n tc ga m gc ss gs z c0 c1) (hg : V.cell? ⟨1, 0, none⟩ = some (.iface 224 (.agg #[.pointer (some ⟨8, 90, none⟩)]))) (hE : Ev V) (hh : Int) :
    Calls Tryz.prog 6 #[.agg #[.slice ta n tc, .slice ga m gc], .slice z.va z.cs.length z.vc, .agg #[.int .i64 z.k, .int .i64 z.f, .slice z.ia z.rs.length z.ic, .slice z.oa z.os.length z.oc], .int .i64 hh] V fun e w' => e = .returned (.agg #[.int .i64 (checkR ss gs z.cs z.k z.f z.rs z.os hh).1, .int .i64 (checkR ss gs z.cs z.k z.f z.rs z.os hh).2]) ∧ Below V.heap.size V w' := by
  have hc := own_capsM h.ref
  exact iCheckTx_any n tc m gc ta ga ss gs z.cs.length z.vc z.va z.cs z.rs.length z.ic z.os.length z.oc z.ia z.oa z.k z.f z.rs z.os hh V hg hE h.fine h.led (by have := h.zc.1; omega) h.keys h.cat (by have := h.zk.1; omega) (by have := h.zk.2.1; omega) hc.1 hc.2 h.outk h.tx
theorem sCheckTx_ck (h : CkF w V SB ca cn cc t LB ta n tc ga m gc ss gs z c0 c1) (hh : Int) :
    Calls Tryz.prog 7 #[.agg #[.slice ta n tc, .slice ga m gc], .slice z.va z.cs.length z.vc, .agg #[.int .i64 z.k, .int .i64 z.f, .slice z.ia z.rs.length z.ic, .slice z.oa z.os.length z.oc], .int .i64 hh] V fun e w' => e = .returned (.agg #[.int .i64 (checkR ss gs z.cs z.k z.f z.rs z.os hh).1, .int .i64 (checkR ss gs z.cs z.k z.f z.rs z.os hh).2]) ∧ Below V.heap.size V w' := by
  have hc := own_capsM h.ref
  have h1 := own_capsM h.rs
  have h2 := own_capsM h.rg
  have key : ∃ kv hi, coinsR z.cs = 0 → COwn V 0 hi (.slice z.va z.cs.length z.vc) z.cs.length (fun j => z.cs.getD j C0) kv := by
    rcases h.own with ⟨kv, lo, hi, hk, _⟩ | ⟨_, cs0, q1, q2⟩
    · exact ⟨kv, hi, fun _ => hk.lowM (Nat.zero_le _)⟩
    · exact ⟨fun _ => .slice none 0 0, 0, fun e => by
        rw [q2] at e
        exact absurd e (twice_bad q1)⟩
  obtain ⟨kv, hi, hO⟩ := key
  exact sCheckTx_gen n tc m gc ta ga ss gs z.cs.length z.vc 0 hi z.va z.cs kv z.rs.length z.ic z.os.length z.oc z.ia z.oa z.k z.f z.rs z.os hh V h.fine h1.1 h2.1 h1.2 h2.2 h.led (by have := h.zc.1; omega) h.keys rfl h.cat hO (Nat.zero_le _) (by have := h.zk.1; omega) (by have := h.zk.2.1; omega) hc.1 hc.2 h.outk h.tx
end
/-- What was drawn, what CheckTx told, what is spent. -/
structure CkS (w V : World) (SB : Nat) (ca : Option Addr) (cn cc t LB : Nat) (ta : Option Addr) (n tc : Nat) (ga : Option Addr) (m gc : Nat) (ss : List ByteArray) (gs : List (Int × Int)) (z : Wr) (c0 c1 : Array Value) (L T X S : Nat) (fee : Int) (sa : Option Addr) (sc : Nat) : Prop where
  ck : CkF w V SB ca cn cc t LB ta n tc ga m gc ss gs z c0 c1
  bL : V.heap[L]? = some (.cells #[.slice ta n tc, .slice ga m gc] 27 (0, 0))
  bT : V.heap[T]? = some (.cells #[.int .i64 z.k, .int .i64 z.f, .slice z.ia z.rs.length z.ic, .slice z.oa z.os.length z.oc] 32 (0, 0))
  bX : V.heap[X]? = some (.cells #[.int .i64 0, .int .i64 fee] 36 (0, 0))
  bS : V.heap[S]? = some (.cells #[.int .i64 0, .slice sa z.rs.length sc] 39 (0, 0))
  sp : CAt V sa z.rs.length (inC z.cs z.rs)
theorem CkS.step {w V W : World} {SB : Nat} {cn cc t LB : Nat} {ca : Option Addr} {ta : Option Addr} {n tc : Nat} {ga : Option Addr} {m gc : Nat} {ss : List ByteArray} {gs : List (Int × Int)} {z : Wr} {c0 c1 : Array Value} {L T X S : Nat} {fee : Int} {sa : Option Addr} {sc : Nat} (h : CkS w V SB ca cn cc t LB ta n tc ga m gc ss gs z c0 c1 L T X S fee sa sc) (hb : Below V.heap.size V W) : CkS w W SB ca cn cc t LB ta n tc ga m gc ss gs z c0 c1 L T X S fee sa sc :=
  ⟨h.ck.step hb, (keepb h.bL hb).out, (keepb h.bT hb).out, (keepb h.bX hb).out, (keepb h.bS hb).out, h.sp.below hb (Nat.le_refl _)⟩
end Go.Proofs.YtagokfoimokniaaGreatDoor
