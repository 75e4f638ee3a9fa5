/- The program's readWords: a transaction is read word by word, or the reading panics. -/
import Derived.Test.YtciefdphjkjikaaGreatDoorBe
import Derived.Test.YtciefdphjkjikaaGreatDoorJn1
import Derived.Test.YtciefdphjkjikaaGreatDoorEv
namespace Go.Proofs.YtciefdphjkjikaaGreatDoor
open Go.RowKit Go.Shelf Go.Maps Go.WideMaps

/-- What the program reads of words. -/
def rwords : List (List UInt8) → Option TxV
  | [] => none
  | w0 :: r => match kindO w0 with
    | none => none
    | some k => if k = 0 then rrest 0 0 r else rmem k r
theorem rread_words (t : List UInt8) : rread t = rwords (cutL 32 t) := by
  unfold rread
  cases cutL 32 t with
  | nil => rfl
  | cons w0 r =>
    simp only [rwords, kindO]
    by_cases h0 : w0 = [112, 97, 121]
    · simp [h0]
    · by_cases h1 : w0 = [106, 111, 105, 110]
      · simp [h1]
      · by_cases h2 : w0 = [108, 101, 97, 118, 101]
        · simp [h2]
        · simp [h0, h1, h2]
theorem OOwn.up {w : World} {lo hi hi' n : Nat} {v : Value} {f : Nat → Ou} {kv : Nat → Value} (h : OOwn w lo hi v n f kv) (hle : hi ≤ hi') : OOwn w lo hi' v n f kv :=
  ⟨h.row, fun b hb => Nat.lt_of_lt_of_le (h.top b hb) hle, fun j hj => ⟨(h.keys j hj).1, fun b hb => Nat.lt_of_lt_of_le ((h.keys j hj).2 b hb) hle⟩, h.apart⟩
theorem OOwn.ext {w : World} {lo hi n : Nat} {v : Value} {f f' : Nat → Ou} {kv : Nat → Value} (h : OOwn w lo hi v n f kv) (he : ∀ j, j < n → f j = f' j) : OOwn w lo hi v n f' kv := by
  obtain ⟨xs, h1, h2⟩ := h.row
  exact ⟨⟨xs, h1, fun j hj => by rw [← he j hj]; exact h2 j hj⟩, h.top, fun j hj => by rw [← he j hj]; exact h.keys j hj, h.apart⟩
theorem OOwn.none {w : World} {lo hi : Nat} {f : Nat → Ou} {kv : Nat → Value} : OOwn w lo hi (.slice Option.none 0 0) 0 f kv :=
  ⟨⟨[], World.ownsRow_nil _ _ _ _, fun j hj => by omega⟩, fun b hb => by simp [Value.ownBlock] at hb, fun j hj => by omega, fun i j _ hj => by omega⟩
theorem row_vn {w : World} {base s N vn vc : Nat} {e : TypeId} {va : Option Addr} {xs : List Value} (h : w.ownsRow base e s (.slice va vn vc) N xs) : vn = N := by
  rcases h.2 with ⟨q, q0⟩ | ⟨g, cap, cur, q, _⟩
  · simp at q; omega
  · simp at q; omega
theorem Chg.setNew {w W : World} {lo hi T i : Nat} (h : Chg w W lo hi) (hT : w.heap.size ≤ T) (u : Value) : Chg w (W.setCell ⟨T, i, none⟩ u) lo hi :=
  ⟨h.os, h.tape, h.output, by simpa using h.size, fun b hb ho => (Below.heap_setCell _ ⟨T, i, none⟩ u b (show b ≠ T by omega)).trans (h.block b hb ho)⟩
theorem WdR.turn {w w' : World} {R g j : Nat} {ws : List (List UInt8)} (h : WdR w R g ws j) (hR : w'.heap[R]? = w.heap[R]?) (hg : w'.heap[g]? = w.heap[g]?) : WdR w' R g ws j := by
  obtain ⟨a, h1, h2⟩ := h.box
  exact ⟨⟨a, hR.trans h1, h2⟩, hg.trans h.row, h.ne, h.few⟩

/-- A transaction under way in block T, behind the reader R. -/
structure Wl (w v : World) (R g : Nat) (ws : List (List UInt8)) (j T mid : Nat) (k f : Int) (ia : Option Addr) (n ic : Nat) (rs : List (Int × Int)) (sa : Option Addr) (sn sc : Nat) (oa : Option Addr) (m oc : Nat) (os : List Ou) (kv : Nat → Value) : Prop where
  wd : WdR v R g ws j
  box : v.heap[T]? = some (.cells #[.int .i64 k, .int .i64 f, .slice ia n ic, .slice sa sn sc] 28 (0, 0))
  res : v.heap[w.heap.size]? = some (.cells #[.int .i64 0, .int .i64 0, .slice none 0 0, .slice none 0 0] 28 (0, 0))
  ref : v.ownsRow w.heap.size 65 2 (.slice ia n ic) n (gcells rs)
  rlt : ∀ b, Value.ownBlock (.slice ia n ic) = some b → b < mid
  out : OOwn v mid v.heap.size (.slice oa m oc) m (fun q => os.getD q O0) kv
  chg : Chg w v R (R + 1)
  ord : R < w.heap.size ∧ g < w.heap.size ∧ w.heap.size < T ∧ T < mid ∧ mid ≤ v.heap.size
section
variable {w v v2 : World} {R g : Nat} {ws : List (List UInt8)} {j j2 T mid mid2 : Nat} {k f f2 : Int} {ia ia2 : Option Addr} {n ic n2 ic2 : Nat} {rs rs2 : List (Int × Int)} {sa : Option Addr} {sn sc : Nat} {oa oa2 : Option Addr} {m oc m2 oc2 : Nat} {os os2 : List Ou} {kv kv2 : Nat → Value}
theorem Wl.next (H : Wl w v R g ws j T mid k f ia n ic rs sa sn sc oa m oc os kv) (hc : Chg v v2 R (R + 1)) (hw : WdR v2 R g ws j2) : Wl w v2 R g ws j2 T mid k f ia n ic rs sa sn sc oa m oc os kv := by
  have ho := H.ord
  have hs := hc.size
  exact ⟨hw, hc.keep H.box (.inr (by omega)), hc.keep H.res (.inr (by omega)), hc.row H.ref (fun b hb => .inr (by have := (H.ref.lt b hb).1; omega)), H.rlt, (H.out.chg hc (.inr (by omega))).up hs, H.chg.trans hc, by omega⟩
theorem Wl.mem (H : Wl w v R g ws j T mid k f ia n ic rs sa sn sc oa m oc os kv) (hb : Below v.heap.size v v2) : Wl w v2 R g ws j T mid k f ia n ic rs sa sn sc oa m oc os kv := H.next (Chg.of_below hb _ _) (H.wd.chg hb)
theorem Wl.setM (H : Wl w v R g ws j T mid k f ia n ic rs sa sn sc oa m oc os kv) (hm : m = 0) (ho0 : oa = none ∧ oc = 0) : Wl w (v.setCell ⟨T, 1, none⟩ (.int .i64 f2)) R g ws j T mid k f2 ia n ic rs sa sn sc oa m oc os kv := by
  have ho := H.ord
  subst hm
  obtain ⟨rfl, rfl⟩ := ho0
  have hk : ∀ b, b ≠ T → (v.setCell ⟨T, 1, none⟩ (.int .i64 f2)).heap[b]? = v.heap[b]? := fun b hb => Below.heap_setCell _ ⟨T, 1, none⟩ _ b hb
  have hb := Joins.block_setCell (i := 1) H.box (.int .i64 f2)
  refine ⟨H.wd.turn (hk R (by omega)) (hk g (by omega)), by simpa using hb, (hk _ (by omega)).trans H.res, ?_, H.rlt, OOwn.none, H.chg.setNew (by omega) _, by simpa using ho⟩
  refine H.ref.kept (grownBy_setCell v ⟨T, 1, none⟩ (.int .i64 f2)) ?_
  rcases H.ref.2 with ⟨q0, _⟩ | ⟨g', cap, cur, q0, _, hgb, _⟩
  · rw [q0]; exact .inl rfl
  · rw [q0]
    refine .inr fun e' => ?_
    have e2 : g' = T := by simpa [Value.ownBlock] using e'
    subst e2
    rw [H.box] at hgb
    cases hgb
theorem Wl.setI (H : Wl w v R g ws j T mid k f ia n ic rs sa sn sc oa m oc os kv) (hm : m = 0) (ho0 : oa = none ∧ oc = 0) (hr : v.ownsRow w.heap.size 65 2 (.slice ia2 n2 ic2) n2 (gcells rs2)) (hne : ∀ b, Value.ownBlock (.slice ia2 n2 ic2) = some b → b ≠ T) : Wl w (v.setCell ⟨T, 2, none⟩ (.slice ia2 n2 ic2)) R g ws j T v.heap.size k f ia2 n2 ic2 rs2 sa sn sc oa m oc os kv := by
  have ho := H.ord
  subst hm
  obtain ⟨rfl, rfl⟩ := ho0
  have hk : ∀ b, b ≠ T → (v.setCell ⟨T, 2, none⟩ (.slice ia2 n2 ic2)).heap[b]? = v.heap[b]? := fun b hb => Below.heap_setCell _ ⟨T, 2, none⟩ _ b hb
  have hb := Joins.block_setCell (i := 2) H.box (.slice ia2 n2 ic2)
  refine ⟨H.wd.turn (hk R (by omega)) (hk g (by omega)), by simpa using hb, (hk _ (by omega)).trans H.res, ?_, fun b hb => (hr.lt b hb).2, OOwn.none, H.chg.setNew (by omega) _, by simp; omega⟩
  refine hr.kept (grownBy_setCell v ⟨T, 2, none⟩ (.slice ia2 n2 ic2)) ?_
  cases e : Value.ownBlock (.slice ia2 n2 ic2) with
  | none => exact .inl rfl
  | some b => exact .inr fun e' => hne b e (Option.some.inj e')
theorem Wl.app (H : Wl w v R g ws j T mid k f ia n ic rs sa sn sc oa m oc os kv) (hb : Below mid v v2) (hO : OOwn v2 mid v2.heap.size (.slice oa2 m2 oc2) m2 (fun q => os2.getD q O0) kv2) : Wl w v2 R g ws j T mid k f ia n ic rs sa sn sc oa2 m2 oc2 os2 kv2 := by
  have ho := H.ord
  have hs := hb.size
  refine ⟨H.wd.turn (hb.block R (by omega)) (hb.block g (by omega)), (hb.block T (by omega)).trans H.box, (hb.block _ (by omega)).trans H.res, ?_, H.rlt, hO, ⟨hb.os.trans H.chg.os, hb.tape.trans H.chg.tape, hb.output.trans H.chg.output, Nat.le_trans H.chg.size hb.size, fun b hb1 hd => (hb.block b (by omega)).trans (H.chg.block b hb1 hd)⟩, by omega⟩
  · refine ⟨H.ref.1, ?_⟩
    rcases H.ref.2 with hn | ⟨g', cap, cur, q0, h1, hgb, rest⟩
    · exact .inl hn
    · exact .inr ⟨g', cap, cur, q0, h1, (hb.block g' (H.rlt g' (by rw [q0]; rfl))).trans hgb, rest⟩
theorem Wl.setO (H : Wl w v R g ws j T mid k f ia n ic rs sa sn sc oa m oc os kv) : Wl w (v.setCell ⟨T, 3, none⟩ (.slice oa m oc)) R g ws j T mid k f ia n ic rs oa m oc oa m oc os kv := by
  have ho := H.ord
  have hk : ∀ b, b ≠ T → (v.setCell ⟨T, 3, none⟩ (.slice oa m oc)).heap[b]? = v.heap[b]? := fun b hb => Below.heap_setCell _ ⟨T, 3, none⟩ _ b hb
  have hb := Joins.block_setCell (i := 3) H.box (.slice oa m oc)
  refine ⟨H.wd.turn (hk R (by omega)) (hk g (by omega)), by simpa using hb, (hk _ (by omega)).trans H.res, ?_, H.rlt, ?_, H.chg.setNew (by omega) _, by simpa using ho⟩
  · refine H.ref.kept (grownBy_setCell v ⟨T, 3, none⟩ (.slice oa m oc)) ?_
    rcases H.ref.2 with ⟨q0, _⟩ | ⟨g', cap, cur, q0, _, hgb, _⟩
    · rw [q0]; exact .inl rfl
    · rw [q0]
      refine .inr fun e' => ?_
      have e2 : g' = T := by simpa [Value.ownBlock] using e'
      subst e2
      rw [H.box] at hgb
      cases hgb
  · have hc : Chg v (v.setCell ⟨T, 3, none⟩ (.slice oa m oc)) T (T + 1) := (Chg.refl _ _ _).setCell ⟨Nat.le_refl _, by omega⟩ _
    have := H.out.chg hc (.inr (by omega))
    simpa using this
end

/-- What holds in the midst of the region. -/
structure Rr9 (w : World) (R g : Nat) (ws : List (List UInt8)) (i T mid : Nat) (k f : Int) (ia : Option Addr) (n ic : Nat) (rs : List (Int × Int)) (oa : Option Addr) (m oc : Nat) (os : List Ou) (kv : Nat → Value) (wi : List UInt8) (v : World) (b0 b1 b2 b3 b4 b5 b6 b7 b8 : Bool) (x25 x26 x27 x28 x29 x30 x31 x32 : Value) : Prop where
  s0 : b3 = false → Wl w v R g ws i T mid k f ia n ic rs oa m oc oa m oc os kv
  s3 : b3 = true → b6 = false → Wl w v R g ws (i + 1) T mid k f ia n ic rs oa m oc oa m oc os kv
  s6 : b6 = true → b8 = false → ∃ q g' cap kv', rout wi = some q ∧ x31 = .slice (some ⟨g', 0, none⟩) (m + 1) cap ∧ Wl w v R g ws (i + 1) T mid k f ia n ic rs oa m oc (some ⟨g', 0, none⟩) (m + 1) cap (os ++ [q]) kv'
  s8 : b8 = true → ∃ q g' cap kv', rout wi = some q ∧ Wl w v R g ws (i + 1) T mid k f ia n ic rs (some ⟨g', 0, none⟩) (m + 1) cap (some ⟨g', 0, none⟩) (m + 1) cap (os ++ [q]) kv'
  f0 : b0 = true → x25 = .pointer (some ⟨T, 3, none⟩)
  f1 : b1 = true → x26 = .slice oa m oc
  f2 : b2 = true → x27 = .pointer (some ⟨R, 0, none⟩)
  f3 : b3 = true → x28 = .string (str wi)
  f4 : b4 = true → b5 = false → ∃ q va vc B3, rout wi = some q ∧ x29 = .agg #[.int .i64 q.v, .slice va q.l.length vc, .int .i64 q.x, .int .i64 q.y] ∧ v.ownsRow B3 2 1 (.slice va q.l.length vc) q.l.length (ints q.l) ∧ mid ≤ B3 ∧ ∀ z, z < m → ∀ b, (kv z).ownBlock = some b → b < B3
  f5 : b5 = true → b6 = false → ∃ q va vc B3 X, rout wi = some q ∧ x30 = .slice (some ⟨X, 0, none⟩) 1 1 ∧ v.heap[X]? = some (.cells #[.int .i64 q.v, .slice va q.l.length vc, .int .i64 q.x, .int .i64 q.y] 44 (0, 0)) ∧ v.ownsRow B3 2 1 (.slice va q.l.length vc) q.l.length (ints q.l) ∧ mid ≤ B3 ∧ ∀ z, z < m → ∀ b, (kv z).ownBlock = some b → b < B3
  f7 : b7 = true → x32 = .pointer (some ⟨T, 3, none⟩)
  o4 : b4 = true → b3 = true
  o5 : b5 = true → b4 = true
  o6 : b6 = true → b5 = true
  o61 : b6 = true → b1 = true
  o8 : b8 = true → b6 = true
/-- What readWords leaves. -/
def OutWd (w w' : World) (e : Ending) (R : Nat) (ws : List (List UInt8)) : Prop := Chg w w' R (R + 1) ∧ ((∃ x ia ic oa oc kv mid, rwords ws = some x ∧ e = .returned (.agg #[.int .i64 x.k, .int .i64 x.f, .slice ia x.rs.length ic, .slice oa x.os.length oc]) ∧ w'.ownsRow w.heap.size 65 2 (.slice ia x.rs.length ic) x.rs.length (gcells x.rs) ∧ (∀ b, Value.ownBlock (.slice ia x.rs.length ic) = some b → b < mid) ∧ OOwn w' mid w'.heap.size (.slice oa x.os.length oc) x.os.length (fun q => x.os.getD q O0) kv ∧ w.heap.size ≤ mid ∧ mid ≤ w'.heap.size) ∨ (rwords ws = none ∧ e = .panicked pnC))
/-- What the readers ask of the package variables. -/
structure Gok (m : Int) (u : World) : Prop where
  ml : u.cell? ⟨1, 0, none⟩ = some (.int .i64 m)
  er : Erv u
  tb : Tb u
  ev : Ev u
def leftW (R : Nat) (W : World) : Nat := match W.cell? ⟨R, 0, none⟩ with
  | some (.slice _ n _) => n
  | _ => 0
theorem WdR.left {w : World} {R g j : Nat} {ws : List (List UInt8)} (h : WdR w R g ws j) : leftW R w = ws.length - j := by
  obtain ⟨a, h1, _⟩ := h.box
  unfold leftW World.cell?
  rw [h1]
  rfl
theorem next_ok {R g j : Nat} {ws : List (List UInt8)} {w : World} (h : WdR w R g ws j) (hj : j < ws.length) : Calls Tryz.prog 68 #[.pointer (some ⟨R, 0, none⟩)] w fun e w' => e = .returned (.string (str (ws.getD j []))) ∧ Hid (WdR w' R g ws (j + 1) ∧ Chg w w' R (R + 1)) :=
  (next_any R g j ws w h).mono fun e w' hq => by
    rcases hq with ⟨_, q1, q2, q3⟩ | ⟨q, _⟩
    · exact ⟨q1, q2, q3⟩
    · exact absurd hj q
theorem next_no {R g j : Nat} {ws : List (List UInt8)} {w : World} (h : WdR w R g ws j) (hj : ¬ j < ws.length) : Calls Tryz.prog 68 #[.pointer (some ⟨R, 0, none⟩)] w fun e w' => e = .panicked pnC ∧ w' = w :=
  (next_any R g j ws w h).mono fun e w' hq => by
    rcases hq with ⟨q, _⟩ | ⟨_, q1, q2⟩
    · exact absurd q hj
    · exact ⟨q1, q2⟩
theorem outs_at {ws : List (List UInt8)} {j0 m i : Nat} {os : List Ou} {q : Ou} (h : ((ws.drop j0).take m).map rout = os.map some) (hi : i = j0 + m) (hl : i < ws.length) (hq : rout (ws.getD i []) = some q) : ((ws.drop j0).take (m + 1)).map rout = (os ++ [q]).map some := by
  subst hi
  have e : (ws.drop j0)[m]? = some (ws.getD (j0 + m) []) := by
    rw [List.getElem?_drop, List.getD, List.getElem?_eq_getElem hl]; rfl
  rw [List.take_add_one, e, List.map_append, h, List.map_append]
  show _ ++ [rout (ws.getD (j0 + m) [])] = _
  rw [hq]
  rfl
theorem outs_len {ws : List (List UInt8)} {j0 m : Nat} {os : List Ou} (h : ((ws.drop j0).take m).map rout = os.map some) (hl : j0 + m ≤ ws.length) : os.length = m := by
  have := congrArg List.length h
  simp at this
  omega

set_option maxRecDepth 20000 in
set_option maxHeartbeats 8000000 in
theorem readWords_any (R g : Nat) (ws : List (List UInt8)) (mx : Int) (w : World) (hwd : WdR w R g ws 0) (hR : R < w.heap.size) (hgl : g < w.heap.size) (hln : ∀ x ∈ ws, x.length ≤ 1048576) (hne : ws ≠ []) (hG : ∀ u, Chg w u R (R + 1) → Gok mx u) :
    Calls Tryz.prog 41 #[.pointer (some ⟨R, 0, none⟩)] w fun e w' => OutWd w w' e R ws := by
  have HG : Hid (∀ u, Chg w u R (R + 1) → Gok mx u) := hG
  have HLN : Hid (∀ x ∈ ws, x.length ≤ 1048576) := hln
  have hb1 : Below w.heap.size w (w.alloc (.cells #[.int .i64 0, .int .i64 0, .slice none 0 0, .slice none 0 0] 28)) := below_box _
  have hs1 : (w.alloc (.cells #[.int .i64 0, .int .i64 0, .slice none 0 0, .slice none 0 0] 28)).heap.size = w.heap.size + 1 := by simp
  have HR1 : Hid ((w.alloc (.cells #[.int .i64 0, .int .i64 0, .slice none 0 0, .slice none 0 0] 28)).heap[w.heap.size]? = some (.cells #[.int .i64 0, .int .i64 0, .slice none 0 0, .slice none 0 0] 28 (0, 0))) := heap_alloc_new _ _
  have h0l : 0 < ws.length := List.length_pos_iff.2 hne
  have hX0 := next_ok (hwd.chg hb1) h0l
  obtain ⟨w0, hw0⟩ : ∃ x, x = ws.getD 0 [] := ⟨_, rfl⟩
  rw [← hw0] at hX0
  have HEW : Hid (ws = w0 :: ws.drop 1) := by
    show _ = _
    rw [hw0]
    cases ws with
    | nil => exact absurd rfl hne
    | cons a r => rfl
  have hfew := hwd.few
  have HP2 : Hid (∀ u : World, ∀ k : Int, WdR u R g ws 1 → Chg (w.alloc (.cells #[.int .i64 0, .int .i64 0, .slice none 0 0, .slice none 0 0] 28)) u R (R + 1) → Wl w (u.alloc (.cells #[.int .i64 k, .int .i64 0, .slice none 0 0, .slice none 0 0] 28)) R g ws 1 u.heap.size (u.heap.size + 1) k 0 none 0 0 [] none 0 0 none 0 0 [] (fun _ => .slice none 0 0)) := fun u k h1 h2 => by
    have hsz := h2.size
    rw [hs1] at hsz
    have hbu : Below u.heap.size u (u.alloc (.cells #[.int .i64 k, .int .i64 0, .slice none 0 0, .slice none 0 0] 28)) := below_box _
    exact ⟨h1.chg hbu, heap_alloc_new _ _, (keepb (h2.keep HR1.out (.inr (by omega))) hbu).out, World.ownsRow_nil _ _ _ _, fun b hb => by simp [Value.ownBlock] at hb, OOwn.none, ((Chg.of_below hb1 _ _).trans h2).trans (Chg.of_below hbu _ _), by simp; omega⟩
  have HC2 : Hid (∀ u : World, Chg (w.alloc (.cells #[.int .i64 0, .int .i64 0, .slice none 0 0, .slice none 0 0] 28)) u R (R + 1) → Chg w u R (R + 1)) := fun u h => (Chg.of_below hb1 _ _).trans h
  clear hwd hG hln hne hb1 hw0
  cases hk : kindO w0 with
  | none =>
    have HK : Hid (∀ u, Chg w u R (R + 1) → Calls Tryz.prog 67 #[.string (str w0)] u fun e w' => e = .panicked pnC ∧ w' = u) := fun u hu => by
      have := readKind_any w0 u (HG.out u hu).ev
      rw [hk] at this
      exact this
    go_enter Tryz.func41, Tryz.ntmps41
    go_wp2_with (first
      | (go_at_call 68; (with_reducible refine hX0.mono ?_); clear hX0; rintro e w2 ⟨rfl, H2⟩; have hK := HK.out w2 (HC2.out w2 H2.out.2))
      | (go_at_call 67; (with_reducible refine hK.mono ?_); clear hK; rintro e w3 ⟨rfl, hw3⟩))
    subst hw3
    exact ⟨rfl, HC2.out _ H2.out.2, .inr ⟨by rw [HEW.out, rwords, hk], rfl⟩⟩
  | some k =>
    have HK : Hid (∀ u, Chg w u R (R + 1) → Calls Tryz.prog 67 #[.string (str w0)] u fun e w' => e = .returned (.int .i64 k) ∧ w' = u) := fun u hu => by
      have := readKind_any w0 u (HG.out u hu).ev
      rw [hk] at this
      exact this
    by_cases hk0 : k = 0
    · subst hk0
      have HRW : Hid (rwords ws = rrest 0 0 (ws.drop 1)) := by show _ = _; rw [HEW.out, rwords, hk]; rfl
      have hM : ∀ u, Calls Tryz.prog 46 #[.int .i64 0] u fun e w' => e = .returned (.bool false) ∧ w' = u := fun u => hasMember_any 0 u
      clear hk
      by_cases hj : 1 < ws.length
      rotate_left 1
      · have HX2 : Hid (∀ u, WdR u R g ws 1 → Calls Tryz.prog 68 #[.pointer (some ⟨R, 0, none⟩)] u fun e w' => e = .panicked pnC ∧ w' = u) := fun u hu => next_no hu hj
        go_enter Tryz.func41, Tryz.ntmps41
        go_wp2_with (first
          | (go_at_call 68; have hq := hX0; clear hX0; (with_reducible refine hq.mono ?_); clear hq; rintro e w2 ⟨rfl, H2⟩; have hK := HK.out w2 (HC2.out w2 H2.out.2))
          | (go_at_call 67; (with_reducible refine hK.mono ?_); clear hK; rintro e w3 ⟨rfl, hw3⟩; have hw3' := hw3.symm; subst hw3'; have HSH : Hid (Wl w (w2.alloc (.cells #[.int .i64 0, .int .i64 0, .slice none 0 0, .slice none 0 0] 28)) R g ws 1 w2.heap.size (w2.heap.size + 1) 0 0 none 0 0 [] none 0 0 none 0 0 [] (fun _ => .slice none 0 0)) := HP2.out w2 0 H2.out.1 H2.out.2; obtain ⟨p0, p1, p2, p3, p4, p5, p6, p7⟩ := cells4 HSH.out.box)
          | (go_at_call 46; (with_reducible refine (hM _).mono ?_); clear hM; rintro e w4 ⟨rfl, hw4⟩; have hw4' := hw4.symm; subst hw4'; have hX2 := HX2.out _ HSH.out.wd)
          | (go_at_call 68; have hq := hX2; clear hX2; (with_reducible refine hq.mono ?_); clear hq; rintro e w8 ⟨rfl, hw8⟩))
        subst hw8
        exact ⟨rfl, HSH.out.chg, .inr ⟨by rw [HRW.out, List.drop_of_length_le (by omega)]; rfl, rfl⟩⟩
      obtain ⟨wj, hwj⟩ : ∃ x, x = ws.getD 1 [] := ⟨_, rfl⟩
      have HX2 : Hid (∀ u, WdR u R g ws 1 → Calls Tryz.prog 68 #[.pointer (some ⟨R, 0, none⟩)] u fun e w' => e = .returned (.string (str wj)) ∧ Hid (WdR w' R g ws 2 ∧ Chg u w' R (R + 1))) := fun u hu => by rw [hwj]; exact next_ok hu hj
      have hwjl : wj.length ≤ 1048576 := HLN.out wj (by rw [hwj]; exact getD_mem hj)
      have edj : ws.drop 1 = wj :: ws.drop 2 := by
        rw [List.drop_eq_getElem_cons hj, hwj, List.getD, List.getElem?_eq_getElem hj]; rfl
      have HRW3 : Hid (rwords ws = rrest 0 0 (wj :: ws.drop 2)) := by show _ = _; rw [HRW.out, edj]
      have HRF : Hid (∀ u, Chg w u R (R + 1) → Calls Tryz.prog 70 #[.string (str wj)] u fun e w' => OutRs u w' e wj) := fun u hu => readRefs_any wj mx u hwjl (HG.out u hu).ml (HG.out u hu).er (HG.out u hu).tb
      have HJ : Hid (2 ≤ ws.length) := by show _ ≤ _; omega
      clear edj hwj
      cases hrs : mapO rref (cutL 43 wj) with
      | none =>
        have HRF2 : Hid (∀ u, Chg w u R (R + 1) → Calls Tryz.prog 70 #[.string (str wj)] u fun e w' => e = .panicked pnC ∧ Below u.heap.size u w') := fun u hu => (HRF.out u hu).mono fun e w' ⟨hb, h⟩ => by
          rcases h with ⟨va, vn, vc, rs, q, _⟩ | ⟨_, q⟩
          · rw [hrs] at q; cases q
          · exact ⟨q, hb⟩
        go_enter Tryz.func41, Tryz.ntmps41
        go_wp2_with (first
          | (go_at_call 68; have hq := hX0; clear hX0; (with_reducible refine hq.mono ?_); clear hq; rintro e w2 ⟨rfl, H2⟩; have hK := HK.out w2 (HC2.out w2 H2.out.2))
          | (go_at_call 67; (with_reducible refine hK.mono ?_); clear hK; rintro e w3 ⟨rfl, hw3⟩; have hw3' := hw3.symm; subst hw3'; have HSH : Hid (Wl w (w2.alloc (.cells #[.int .i64 0, .int .i64 0, .slice none 0 0, .slice none 0 0] 28)) R g ws 1 w2.heap.size (w2.heap.size + 1) 0 0 none 0 0 [] none 0 0 none 0 0 [] (fun _ => .slice none 0 0)) := HP2.out w2 0 H2.out.1 H2.out.2; obtain ⟨p0, p1, p2, p3, p4, p5, p6, p7⟩ := cells4 HSH.out.box)
          | (go_at_call 46; (with_reducible refine (hM _).mono ?_); clear hM; rintro e w4 ⟨rfl, hw4⟩; have hw4' := hw4.symm; subst hw4'; have hX2 := HX2.out _ HSH.out.wd)
          | (go_at_call 68; have hq := hX2; clear hX2; (with_reducible refine hq.mono ?_); clear hq; rintro e w8 ⟨rfl, H8⟩; have HS8 : Hid (Wl w w8 R g ws 2 w2.heap.size (w2.heap.size + 1) 0 0 none 0 0 [] none 0 0 none 0 0 [] (fun _ => .slice none 0 0)) := HSH.out.next H8.out.2 H8.out.1; have hRF := HRF2.out w8 HS8.out.chg)
          | (go_at_call 70; (with_reducible refine hRF.mono ?_); clear hRF; rintro e w9 ⟨rfl, hb9⟩))
        exact ⟨rfl, (HS8.out.mem hb9).chg, .inr ⟨by rw [HRW3.out, rrest, hrs], rfl⟩⟩
      | some rs =>
      have HRF2 : Hid (∀ u, Chg w u R (R + 1) → Calls Tryz.prog 70 #[.string (str wj)] u fun e w' => ∃ ia ic, e = .returned (.slice ia rs.length ic) ∧ Hid (World.ownsRow w' u.heap.size 65 2 (.slice ia rs.length ic) rs.length (gcells rs)) ∧ Hid (Below u.heap.size u w')) := fun u hu => (HRF.out u hu).mono fun e w' ⟨hb, h⟩ => by
        rcases h with ⟨va, vn, vc, rs', q, q2, q3⟩ | ⟨q, _⟩
        · rw [hrs] at q
          cases q
          obtain rfl := row_vn q3
          exact ⟨va, vc, q2, q3, hb⟩
        · rw [hrs] at q; cases q
      obtain ⟨n, hnl⟩ : ∃ n, n = rs.length := ⟨_, rfl⟩
      rw [← hnl] at HRF2
      have HNL : Hid (rs.length = n) := hnl.symm
      have HSOME : Hid (∀ os, mapO rout (ws.drop 2) = some os → rwords ws = some ⟨0, 0, rs, os⟩) := fun os ho => by rw [HRW3.out, rrest, hrs, ho]
      have HNONE : Hid (mapO rout (ws.drop 2) = none → rwords ws = none) := fun ho => by rw [HRW3.out, rrest, hrs, ho]
      clear hrs hnl
      go_enter Tryz.func41, Tryz.ntmps41
      go_wp2_with (first
        | (go_at_call 68; have hq := hX0; clear hX0; (with_reducible refine hq.mono ?_); clear hq; rintro e w2 ⟨rfl, H2⟩; have hK := HK.out w2 (HC2.out w2 H2.out.2))
        | (go_at_call 67; (with_reducible refine hK.mono ?_); clear hK; rintro e w3 ⟨rfl, hw3⟩; have hw3' := hw3.symm; subst hw3'; have HSH : Hid (Wl w (w2.alloc (.cells #[.int .i64 0, .int .i64 0, .slice none 0 0, .slice none 0 0] 28)) R g ws 1 w2.heap.size (w2.heap.size + 1) 0 0 none 0 0 [] none 0 0 none 0 0 [] (fun _ => .slice none 0 0)) := HP2.out w2 0 H2.out.1 H2.out.2; obtain ⟨p0, p1, p2, p3, p4, p5, p6, p7⟩ := cells4 HSH.out.box)
        | (go_at_call 46; (with_reducible refine (hM _).mono ?_); clear hM; rintro e w4 ⟨rfl, hw4⟩; have hw4' := hw4.symm; subst hw4'; have hX2 := HX2.out _ HSH.out.wd)
        | (go_at_call 68; have hq := hX2; clear hX2; (with_reducible refine hq.mono ?_); clear hq; rintro e w8 ⟨rfl, H8⟩; have HS8 : Hid (Wl w w8 R g ws 2 w2.heap.size (w2.heap.size + 1) 0 0 none 0 0 [] none 0 0 none 0 0 [] (fun _ => .slice none 0 0)) := HSH.out.next H8.out.2 H8.out.1; have hRF := HRF2.out w8 HS8.out.chg)
        | (go_at_call 70; (with_reducible refine hRF.mono ?_); clear hRF; rintro e w9 ⟨ia, ic, rfl, HO9, HB9⟩; have HS9 : Hid (Wl w w9 R g ws 2 w2.heap.size (w2.heap.size + 1) 0 0 none 0 0 [] none 0 0 none 0 0 [] (fun _ => .slice none 0 0)) := HS8.out.mem HB9.out; obtain ⟨p0, p1, p2, p3, p4, p5, p6, p7⟩ := cells4 HS9.out.box; have HSI : Hid (Wl w (w9.setCell ⟨w2.heap.size, 2, none⟩ (.slice ia n ic)) R g ws 2 w2.heap.size w9.heap.size 0 0 ia n ic rs none 0 0 none 0 0 [] (fun _ => .slice none 0 0)) := HS9.out.setI (ia2 := ia) (n2 := n) (ic2 := ic) (rs2 := rs) rfl ⟨rfl, rfl⟩ (Joins.ownsRow_le HO9.out (by have := HS8.out.chg.size; omega)) (fun b hb e => by have h1 := (HO9.out.lt b hb).1; have h2 := HS8.out.ord; omega)))
      have HL0 := HSI
      obtain ⟨T, hT⟩ : ∃ T, T = w2.heap.size := ⟨_, rfl⟩
      obtain ⟨mid, hmid⟩ : ∃ z, z = w9.heap.size := ⟨_, rfl⟩
      obtain ⟨W9, hW9⟩ : ∃ z, z = w9.setCell ⟨w2.heap.size, 2, none⟩ (.slice ia n ic) := ⟨_, rfl⟩
      rw [← hW9, ← hT, ← hmid] at HL0
      rw [← hW9, ← hT]
      clear HSI HSH p0 p1 p2 p3 p4 p5 p6 p7 hW9 hT hmid HS9 HS8
      go_loopw [19] (fun _ wr => Hid (∃ i m os oa oc kv, i = 2 + m ∧ i ≤ ws.length ∧ ((ws.drop 2).take m).map rout = os.map some ∧ Wl w wr R g ws i T mid 0 0 ia n ic rs oa m oc oa m oc os kv)) (fun _ wr => leftW R wr)
      case atStart => exact ⟨2, 0, [], none, 0, fun _ => .slice none 0 0, rfl, HJ.out, rfl, HL0.out⟩
      case round =>
        obtain ⟨i, m, os, oa, oc, kv, hi0, hile, hos, HWl⟩ := (show Hid (∃ i m os oa oc kv, i = 2 + m ∧ i ≤ ws.length ∧ ((ws.drop 2).take m).map rout = os.map some ∧ Wl w wr R g ws i T mid 0 0 ia n ic rs oa m oc oa m oc os kv) from hrel).out
        obtain ⟨la, hbx, hla⟩ := HWl.wd.box
        obtain ⟨N, hN⟩ : ∃ N, N = ws.length - i := ⟨_, rfl⟩
        rw [← hN] at hbx
        have c0 : wr.cell? ⟨R, 0, none⟩ = some (.slice la N N) := by unfold World.cell?; rw [hbx]; rfl
        have HN : Hid (N = ws.length - i) := hN
        have HOS : Hid (((ws.drop 2).take m).map rout = os.map some) := hos
        have HIJ : Hid (i = 2 + m ∧ i ≤ ws.length) := ⟨hi0, hile⟩
        have HOL : Hid (os.length = m) := outs_len hos (by omega)
        have HWL : Hid (Wl w wr R g ws i T mid 0 0 ia n ic rs oa m oc oa m oc os kv) := HWl
        have hfew := HWl.wd.few
        have hm6 : m ≤ 1100000 := by omega
        by_cases hil : i < ws.length
        · obtain rfl := hla hil
          have hN2 : (0 : Int) < (N : Int) := by omega
          have hN3 : decide ((0 : Int) < (N : Int)) = true := decide_eq_true hN2
          have hN4 : 0 < N := by omega
          obtain ⟨wi, hwi⟩ : ∃ x, x = ws.getD i [] := ⟨_, rfl⟩
          have HWI : Hid (wi = ws.getD i []) := hwi
          have hmem : wi ∈ ws := by rw [hwi]; exact getD_mem hil
          have hwl : wi.length ≤ 1048576 := HLN.out wi hmem
          have HWM : Hid (wi ∈ ws.drop 2) := by
            have e : (ws.drop 2)[m]? = some wi := by rw [List.getElem?_drop, ← hi0, hwi, List.getD, List.getElem?_eq_getElem hil]; rfl
            exact List.mem_of_getElem? e
          clear hN hos hi0 hile HWl hbx hla hwi hmem
          go_wp2
          refine wp_region_any (by kernel_rfl) ?_
          change wpAny _ _ _ _ _ _ _ (World.drew _)
          refine wpAny_inv (fun L a v => ∃ (b0 b1 b2 b3 b4 b5 b6 b7 b8 : Bool) (x25 x26 x27 x28 x29 x30 x31 x32 : Value), L = #[b0, b1, b2, b3, b4, b5, b6, b7, b8] ∧ a = { tmps := #[.pointer (some ⟨R, 0, none⟩), undef, .pointer (some ⟨w.heap.size, 0, none⟩), .pointer (some ⟨T, 0, none⟩), .pointer (some ⟨R, 0, none⟩), .string (str w0), .int .i64 0, .agg #[.int .i64 0, .int .i64 0, .slice none 0 0, .slice none 0 0], .pointer (some ⟨T, 0, none⟩), .int .i64 0, .bool false, undef, undef, undef, undef, .pointer (some ⟨R, 0, none⟩), .string (str wj), .slice ia n ic, .pointer (some ⟨T, 2, none⟩), .pointer (some ⟨R, 0, none⟩), .pointer (some ⟨R, 0, none⟩), .pointer (some ⟨R, 0, none⟩), .slice (some ⟨g, i, none⟩) N N, .int .i64 (N : Nat), .bool true, x25, x26, x27, x28, x29, x30, x31, x32, undef], defers := [] } ∧ Rr9 w R g ws i T mid 0 0 ia n ic rs oa m oc os kv wi v b0 b1 b2 b3 b4 b5 b6 b7 b8 x25 x26 x27 x28 x29 x30 x31 x32) ?step ?done _ _ _ _ (by simp) ?start
          case start =>
            refine ⟨false, false, false, false, false, false, false, false, false, _, _, _, _, _, _, _, _, rfl, rfl, ?_⟩
            exact { s0 := fun _ => HWL.out.mem (Below.refl _ _).drew, s3 := fun h => (by cases h), s6 := fun h => (by cases h), s8 := fun h => (by cases h), f0 := fun h => (by cases h), f1 := fun h => (by cases h), f2 := fun h => (by cases h), f3 := fun h => (by cases h), f4 := fun h => (by cases h), f5 := fun h => (by cases h), f7 := fun h => (by cases h), o4 := fun h => (by cases h), o5 := fun h => (by cases h), o6 := fun h => (by cases h), o61 := fun h => (by cases h), o8 := fun h => (by cases h) }
          case done =>
            rintro L a v ⟨b0, b1, b2, b3, b4, b5, b6, b7, b8, x25, x26, x27, x28, x29, x30, x31, x32, rfl, rfl, H⟩ hr
            have hall := ready_all (by kernel_rfl) hr
            obtain rfl : b8 = true := hall 8 (by decide)
            obtain ⟨q, g', cap, kv', hq, HF⟩ := H.s8 rfl
            have HFF : Hid (Wl w v R g ws (i + 1) T mid 0 0 ia n ic rs (some ⟨g', 0, none⟩) (m + 1) cap (some ⟨g', 0, none⟩) (m + 1) cap (os ++ [q]) kv') := HF
            have HQ : Hid (rout wi = some q) := hq
            have hleft : leftW R v < leftW R wr := by rw [HF.wd.left, HWL.out.wd.left]; omega
            clear HF hq H hr hall
            go_wp2
            go_roundw
            case rel => exact ⟨i + 1, m + 1, os ++ [q], some ⟨g', 0, none⟩, cap, kv', by have := HIJ.out.1; omega, by omega, outs_at HOS.out HIJ.out.1 hil (by rw [← HWI.out]; exact HQ.out), HFF.out⟩
            case measure => exact hleft
          case step =>
            rintro L a v i' ⟨b0, b1, b2, b3, b4, b5, b6, b7, b8, x25, x26, x27, x28, x29, x30, x31, x32, rfl, rfl, H⟩ hi
            have hlt : i' < 9 := ready_lt hi
            obtain rfl | rfl | rfl | rfl | rfl | rfl | rfl | rfl | rfl : i' = 0 ∨ i' = 1 ∨ i' = 2 ∨ i' = 3 ∨ i' = 4 ∨ i' = 5 ∨ i' = 6 ∨ i' = 7 ∨ i' = 8 := by omega
            · obtain rfl : b0 = false := ready_new hi
              refine wpOp_run (o := _) rfl (fun K hK => ?_)
              go_simp
              refine hK _ _ ?_
              exact ⟨_, _, _, _, _, _, _, _, _, _, _, _, _, _, _, _, _, rfl, rfl, { H with f0 := fun _ => rfl }⟩
            · obtain rfl : b1 = false := ready_new hi
              obtain rfl : b0 = true := ready_dep (d := 0) hi (by kernel_rfl)
              obtain rfl : b6 = false := Bool.eq_false_iff.2 (fun h => by have := H.o61 h; cases this)
              obtain rfl : b8 = false := Bool.eq_false_iff.2 (fun h => by have := H.o8 h; cases this)
              obtain rfl := H.f0 rfl
              have hbT : v.heap[T]? = some (.cells #[.int .i64 0, .int .i64 0, .slice ia n ic, .slice oa m oc] 28 (0, 0)) := by
                cases b3
                · exact (H.s0 rfl).box
                · exact (H.s3 rfl rfl).box
              obtain ⟨y0, y1, y2, y3, _⟩ := cells4 hbT
              refine wpOp_run (o := _) rfl (fun K hK => ?_)
              go_simp
              refine hK _ _ ?_
              exact ⟨_, _, _, _, _, _, _, _, _, _, _, _, _, _, _, _, _, rfl, rfl, { H with f1 := fun _ => rfl, o61 := fun h => (by cases h) }⟩
            · obtain rfl : b2 = false := ready_new hi
              refine wpOp_run (o := _) rfl (fun K hK => ?_)
              go_simp
              refine hK _ _ ?_
              exact ⟨_, _, _, _, _, _, _, _, _, _, _, _, _, _, _, _, _, rfl, rfl, { H with f2 := fun _ => rfl }⟩
            · obtain rfl : b3 = false := ready_new hi
              obtain rfl : b2 = true := ready_dep (d := 2) hi (by kernel_rfl)
              obtain rfl : b4 = false := Bool.eq_false_iff.2 (fun h => by have := H.o4 h; cases this)
              obtain rfl : b5 = false := Bool.eq_false_iff.2 (fun h => by have := H.o5 h; cases this)
              obtain rfl : b6 = false := Bool.eq_false_iff.2 (fun h => by have := H.o6 h; cases this)
              obtain rfl : b8 = false := Bool.eq_false_iff.2 (fun h => by have := H.o8 h; cases this)
              obtain rfl := H.f2 rfl
              have HWl := H.s0 rfl
              have hW := next_ok HWl.wd hil
              rw [← HWI.out] at hW
              refine wpOp_run (o := _) rfl (fun K hK => ?_)
              go_simp
              go_at_call 68
              refine hW.mono ?_
              rintro e v5 ⟨rfl, h5⟩
              show K _ _
              refine hK _ _ ?_
              exact ⟨_, _, _, _, _, _, _, _, _, _, _, _, _, _, _, _, _, rfl, rfl, { H with s0 := fun h => (by cases h), s3 := fun _ _ => HWl.next h5.out.2 h5.out.1, f3 := fun _ => rfl, o4 := fun h => (by cases h), f4 := fun h => (by cases h), f5 := fun h => (by cases h), s6 := fun h => (by cases h), s8 := fun h => (by cases h) }⟩
            · obtain rfl : b4 = false := ready_new hi
              obtain rfl : b3 = true := ready_dep (d := 3) hi (by kernel_rfl)
              obtain rfl : b5 = false := Bool.eq_false_iff.2 (fun h => by have := H.o5 h; cases this)
              obtain rfl : b6 = false := Bool.eq_false_iff.2 (fun h => by have := H.o6 h; cases this)
              obtain rfl : b8 = false := Bool.eq_false_iff.2 (fun h => by have := H.o8 h; cases this)
              obtain rfl := H.f3 rfl
              have HWl := H.s3 rfl rfl
              have hG := HG.out v HWl.chg
              have hW := readOut_any wi mx v hwl hG.ml hG.er hG.tb
              refine wpOp_run (o := _) rfl (fun K hK => ?_)
              go_simp
              go_at_call 71
              refine hW.mono ?_
              rintro e v5 ⟨hb5, ⟨q, va, vc, hq, rfl, hO⟩ | ⟨hq, rfl⟩⟩
              · show K _ _
                refine hK _ _ ?_
                exact ⟨_, _, _, _, _, _, _, _, _, _, _, _, _, _, _, _, _, rfl, rfl, { H with s0 := fun h => (by cases h), s3 := fun _ _ => HWl.mem hb5, f4 := fun _ _ => ⟨q, va, vc, v.heap.size, hq, rfl, hO, HWl.ord.2.2.2.2, fun z hz b hb => (HWl.out.keys z hz).2 b hb⟩, f5 := fun h => (by cases h), s6 := fun h => (by cases h), s8 := fun h => (by cases h), o4 := fun _ => rfl, o5 := fun h => (by cases h) }⟩
              · exact ⟨rfl, (HWl.mem hb5).chg, .inr ⟨HNONE.out (mapO_none HWM.out hq), rfl⟩⟩
            · obtain rfl : b5 = false := ready_new hi
              obtain rfl : b4 = true := ready_dep (d := 4) hi (by kernel_rfl)
              obtain rfl : b6 = false := Bool.eq_false_iff.2 (fun h => by have := H.o6 h; cases this)
              obtain rfl : b8 = false := Bool.eq_false_iff.2 (fun h => by have := H.o8 h; cases this)
              obtain rfl : b3 = true := H.o4 rfl
              have HWl := H.s3 rfl rfl
              obtain ⟨q, va, vc, B3, hq, e29, hO, hB3, hkv⟩ := H.f4 rfl rfl
              subst e29
              refine wpOp_run (o := _) rfl (fun K hK => ?_)
              go_simp
              refine hK _ _ ?_
              exact ⟨_, _, _, _, _, _, _, _, _, _, _, _, _, _, _, _, _, rfl, rfl, { H with s0 := fun h => (by cases h), s3 := fun _ _ => HWl.mem (below_box _), f4 := fun _ h => (by cases h), f5 := fun _ _ => ⟨q, va, vc, B3, v.heap.size, hq, rfl, heap_alloc_new _ _, hO.alloc _, hB3, hkv⟩, s6 := fun h => (by cases h), s8 := fun h => (by cases h), o5 := fun _ => rfl, o6 := fun h => (by cases h) }⟩
            · obtain rfl : b6 = false := ready_new hi
              obtain rfl : b1 = true := ready_dep (d := 1) hi (by kernel_rfl)
              obtain rfl : b5 = true := ready_dep (d := 5) hi (by kernel_rfl)
              obtain rfl : b8 = false := Bool.eq_false_iff.2 (fun h => by have := H.o8 h; cases this)
              obtain rfl : b4 = true := H.o5 rfl
              obtain rfl : b3 = true := H.o4 rfl
              have HWl := H.s3 rfl rfl
              obtain ⟨q, va, vc, B3, X, hq, e30, hX, hO, hB3, hkv⟩ := H.f5 rfl rfl
              obtain rfl := H.f1 rfl
              subst e30
              have hext : OOwn v mid v.heap.size (.slice oa m oc) m (fun z => (os ++ [q]).getD z O0) kv := HWl.out.ext fun z hz => by
                show os.getD z O0 = (os ++ [q]).getD z O0
                rw [List.getD, List.getD, List.getElem?_append_left (by rw [HOL.out]; exact hz)]
              obtain ⟨g', cap, v6, hrun, HA⟩ := out_added (o := q) (u := .slice va q.l.length vc) hext hX rfl (Joins.ownsRow_le hO hB3) (fun z hz b hb e => by have h1 := hkv z hz b hb; have h2 := (hO.lt b e).1; omega) hm6 HWl.ord.2.2.2.2 (by show (os ++ [q]).getD m O0 = q; rw [List.getD, List.getElem?_append_right (by rw [HOL.out]; exact Nat.le_refl _), HOL.out]; simp)
              have hbm : Below mid v v6 := (Below.refl _ _).grown HA.out.2 HWl.ord.2.2.2.2 (fun b hb => by obtain ⟨zs, h1, _⟩ := HWl.out.row; exact (h1.lt b hb).1)
              refine wpOp_run (o := _) rfl (fun K hK => ?_)
              refine step_append_run (by rfl) _ _ _ (by rfl) (by rfl) (by rfl) hrun ?_
              refine hK _ _ ?_
              exact ⟨_, _, _, _, _, _, _, _, _, _, _, _, _, _, _, _, _, rfl, rfl, { H with s0 := fun h => (by cases h), s3 := fun _ h => (by cases h), f4 := fun _ h => (by cases h), f5 := fun _ h => (by cases h), s6 := fun _ _ => ⟨q, g', cap, _, hq, rfl, HWl.app hbm HA.out.1⟩, s8 := fun h => (by cases h), o6 := fun _ => rfl, o61 := fun _ => rfl, o8 := fun h => (by cases h) }⟩
            · obtain rfl : b7 = false := ready_new hi
              refine wpOp_run (o := _) rfl (fun K hK => ?_)
              go_simp
              refine hK _ _ ?_
              exact ⟨_, _, _, _, _, _, _, _, _, _, _, _, _, _, _, _, _, rfl, rfl, { H with f7 := fun _ => rfl }⟩
            · obtain rfl : b8 = false := ready_new hi
              obtain rfl : b6 = true := ready_dep (d := 6) hi (by kernel_rfl)
              obtain rfl : b7 = true := ready_dep (d := 7) hi (by kernel_rfl)
              obtain ⟨q, g', cap, kv', hq, e31, HWl⟩ := H.s6 rfl rfl
              subst e31
              obtain rfl := H.f7 rfl
              obtain rfl : b5 = true := H.o6 rfl
              obtain rfl : b4 = true := H.o5 rfl
              obtain rfl : b3 = true := H.o4 rfl
              obtain ⟨y0, y1, y2, y3, y4, y5, y6, y7⟩ := cells4 HWl.box
              refine wpOp_run (o := _) rfl (fun K hK => ?_)
              go_simp
              refine hK _ _ ?_
              exact ⟨_, _, _, _, _, _, _, _, _, _, _, _, _, _, _, _, _, rfl, rfl, { H with s0 := fun h => (by cases h), s3 := fun _ h => (by cases h), f4 := fun _ h => (by cases h), f5 := fun _ h => (by cases h), s6 := fun _ h => (by cases h), s8 := fun _ => ⟨q, g', cap, kv', hq, HWl.setO⟩, o8 := fun _ => rfl }⟩
        · have hN0 : N = 0 := by omega
          subst hN0
          obtain ⟨y0, y1, y2, y3, _⟩ := cells4 HWl.box
          obtain ⟨z0, z1, z2, z3, z4, z5, z6, z7⟩ := cells4 HWl.res
          obtain ⟨j0, j1, j2, j3⟩ := four_set HWl.res (.int .i64 0) (.int .i64 0) (.slice ia n ic) (.slice oa m oc)
          have HFIN : Hid (rwords ws = some ⟨0, 0, rs, os⟩) := HSOME.out os (mapO_some (by rw [← hos, List.take_of_length_le (by rw [List.length_drop]; omega)]))
          have hRW : w.heap.size ≠ T := by have := HWl.ord; omega
          clear hos hi0 hile hbx hla HWl hN
          go_wp2
          refine bodyPost_ret (v := .agg #[.int .i64 0, .int .i64 0, .slice ia n ic, .slice oa m oc]) (by simp [results, Tryz.results41, go_sem, j0, j1, j2, j3]) rfl ?_
          have hW := HWL.out
          have ho := hW.ord
          have hcR : Chg wr (four w.heap.size wr (.int .i64 0) (.int .i64 0) (.slice ia n ic) (.slice oa m oc)) w.heap.size (w.heap.size + 1) := ((((Chg.refl _ _ _).setCell ⟨Nat.le_refl _, by omega⟩ _).setCell ⟨Nat.le_refl _, by omega⟩ _).setCell ⟨Nat.le_refl _, by omega⟩ _).setCell ⟨Nat.le_refl _, by omega⟩ _
          refine ⟨(((hW.chg.setNew (Nat.le_refl _) _).setNew (Nat.le_refl _) _).setNew (Nat.le_refl _) _).setNew (Nat.le_refl _) _, .inl ⟨⟨0, 0, rs, os⟩, ia, ic, oa, oc, kv, mid, HFIN.out, ?_, ?_, ?_, ?_, by omega, Nat.le_trans ho.2.2.2.2 hcR.size⟩⟩
          · simp only [HOL.out, HNL.out]
          · simp only [HNL.out]
            refine hcR.row hW.ref fun b hb => ?_
            have h1 := (hW.ref.lt b hb).1
            by_cases e : b = w.heap.size
            · exfalso
              subst e
              rcases hW.ref.2 with ⟨q0, _⟩ | ⟨g', cap, cur, q0, _, hgb, _⟩
              · rw [q0] at hb; simp [Value.ownBlock] at hb
              · rw [q0] at hb
                have e2 : g' = w.heap.size := by simpa [Value.ownBlock] using hb
                subst e2
                rw [hW.res] at hgb
                cases hgb
            · exact .inr (by omega)
          · simp only [HNL.out]; exact hW.rlt
          · simp only [HOL.out]
            exact (hW.out.chg hcR (.inr (by omega))).up hcR.size
    · have HRW : Hid (rwords ws = rmem k (ws.drop 1)) := by show _ = _; rw [HEW.out, rwords, hk]; simp [hk0]
      have hmk : memK k = true := by
        have : k = 1 ∨ k = 2 := by
          unfold kindO at hk
          split at hk
          · simp at hk; omega
          · split at hk
            · simp at hk; omega
            · split at hk
              · simp at hk; omega
              · cases hk
        rcases this with rfl | rfl <;> rfl
      have hM : ∀ u, Calls Tryz.prog 46 #[.int .i64 k] u fun e w' => e = .returned (.bool true) ∧ w' = u := fun u => by
        have := hasMember_any k u
        rw [hmk] at this
        exact this
      clear hk hmk
      have hd1 : ¬ 1 < ws.length → rwords ws = none := fun h => by rw [HRW.out, List.drop_of_length_le (by omega)]; rfl
      by_cases h1 : 1 < ws.length
      rotate_left 1
      · have HX1 : Hid (∀ u, WdR u R g ws 1 → Calls Tryz.prog 68 #[.pointer (some ⟨R, 0, none⟩)] u fun e w' => e = .panicked pnC ∧ w' = u) := fun u hu => next_no hu h1
        go_enter Tryz.func41, Tryz.ntmps41
        go_wp2_with (first
          | (go_at_call 68; have hq := hX0; clear hX0; (with_reducible refine hq.mono ?_); clear hq; rintro e w2 ⟨rfl, H2⟩; have hK := HK.out w2 (HC2.out w2 H2.out.2))
          | (go_at_call 67; (with_reducible refine hK.mono ?_); clear hK; rintro e w3 ⟨rfl, hw3⟩; have hw3' := hw3.symm; subst hw3'; have HSH : Hid (Wl w (w2.alloc (.cells #[.int .i64 k, .int .i64 0, .slice none 0 0, .slice none 0 0] 28)) R g ws 1 w2.heap.size (w2.heap.size + 1) k 0 none 0 0 [] none 0 0 none 0 0 [] (fun _ => .slice none 0 0)) := HP2.out w2 k H2.out.1 H2.out.2; obtain ⟨p0, p1, p2, p3, p4, p5, p6, p7⟩ := cells4 HSH.out.box)
          | (go_at_call 46; (with_reducible refine (hM _).mono ?_); clear hM; rintro e w4 ⟨rfl, hw4⟩; have hw4' := hw4.symm; subst hw4'; have hX1 := HX1.out _ HSH.out.wd)
          | (go_at_call 68; have hq := hX1; clear hX1; (with_reducible refine hq.mono ?_); clear hq; rintro e w5 ⟨rfl, hw5⟩))
        subst hw5
        exact ⟨rfl, HSH.out.chg, .inr ⟨hd1 h1, rfl⟩⟩
      obtain ⟨w1, hw1⟩ : ∃ x, x = ws.getD 1 [] := ⟨_, rfl⟩
      have HX1 : Hid (∀ u, WdR u R g ws 1 → Calls Tryz.prog 68 #[.pointer (some ⟨R, 0, none⟩)] u fun e w' => e = .returned (.string (str w1)) ∧ Hid (WdR w' R g ws 2 ∧ Chg u w' R (R + 1))) := fun u hu => by rw [hw1]; exact next_ok hu h1
      have hw1l : w1.length ≤ 1048576 := HLN.out w1 (by rw [hw1]; exact getD_mem h1)
      have ed1 : ws.drop 1 = w1 :: ws.drop 2 := by
        rw [List.drop_eq_getElem_cons h1, hw1, List.getD, List.getElem?_eq_getElem h1]; rfl
      have HRW1 : Hid (rwords ws = (match rnum w1 with
        | some f => rrest k f (ws.drop 2)
        | none => none)) := by show _ = _; rw [HRW.out, ed1, rmem]; cases rnum w1 <;> rfl
      clear hd1 ed1 hw1
      cases hf : rnum w1 with
      | none =>
        have HN1 : Hid (∀ u, Chg w u R (R + 1) → Calls Tryz.prog 69 #[.string (str w1)] u fun e w' => e = .panicked pnC ∧ Below u.heap.size u w') := fun u hu => by
          have hG := HG.out u hu
          have := readNumber_any w1 u hw1l hG.er hG.tb
          rw [hf] at this
          exact this
        go_enter Tryz.func41, Tryz.ntmps41
        go_wp2_with (first
          | (go_at_call 68; have hq := hX0; clear hX0; (with_reducible refine hq.mono ?_); clear hq; rintro e w2 ⟨rfl, H2⟩; have hK := HK.out w2 (HC2.out w2 H2.out.2))
          | (go_at_call 67; (with_reducible refine hK.mono ?_); clear hK; rintro e w3 ⟨rfl, hw3⟩; have hw3' := hw3.symm; subst hw3'; have HSH : Hid (Wl w (w2.alloc (.cells #[.int .i64 k, .int .i64 0, .slice none 0 0, .slice none 0 0] 28)) R g ws 1 w2.heap.size (w2.heap.size + 1) k 0 none 0 0 [] none 0 0 none 0 0 [] (fun _ => .slice none 0 0)) := HP2.out w2 k H2.out.1 H2.out.2; obtain ⟨p0, p1, p2, p3, p4, p5, p6, p7⟩ := cells4 HSH.out.box)
          | (go_at_call 46; (with_reducible refine (hM _).mono ?_); clear hM; rintro e w4 ⟨rfl, hw4⟩; have hw4' := hw4.symm; subst hw4'; have hX1 := HX1.out _ HSH.out.wd)
          | (go_at_call 68; have hq := hX1; clear hX1; (with_reducible refine hq.mono ?_); clear hq; rintro e w5 ⟨rfl, H5⟩; have HS5 : Hid (Wl w w5 R g ws 2 w2.heap.size (w2.heap.size + 1) k 0 none 0 0 [] none 0 0 none 0 0 [] (fun _ => .slice none 0 0)) := HSH.out.next H5.out.2 H5.out.1; have hN1 := HN1.out w5 HS5.out.chg)
          | (go_at_call 69; (with_reducible refine hN1.mono ?_); clear hN1; rintro e w6 ⟨rfl, hb6⟩))
        exact ⟨rfl, (HS5.out.mem hb6).chg, .inr ⟨by rw [HRW1.out, hf], rfl⟩⟩
      | some f =>
      have HN1 : Hid (∀ u, Chg w u R (R + 1) → Calls Tryz.prog 69 #[.string (str w1)] u fun e w' => e = .returned (.int .i64 f) ∧ Below u.heap.size u w') := fun u hu => by
        have hG := HG.out u hu
        have := readNumber_any w1 u hw1l hG.er hG.tb
        rw [hf] at this
        exact this
      have HRW2 : Hid (rwords ws = rrest k f (ws.drop 2)) := by show _ = _; rw [HRW1.out, hf]
      clear hf
      by_cases hj : 2 < ws.length
      rotate_left 1
      · have HX2 : Hid (∀ u, WdR u R g ws 2 → Calls Tryz.prog 68 #[.pointer (some ⟨R, 0, none⟩)] u fun e w' => e = .panicked pnC ∧ w' = u) := fun u hu => next_no hu hj
        go_enter Tryz.func41, Tryz.ntmps41
        go_wp2_with (first
          | (go_at_call 68; have hq := hX0; clear hX0; (with_reducible refine hq.mono ?_); clear hq; rintro e w2 ⟨rfl, H2⟩; have hK := HK.out w2 (HC2.out w2 H2.out.2))
          | (go_at_call 67; (with_reducible refine hK.mono ?_); clear hK; rintro e w3 ⟨rfl, hw3⟩; have hw3' := hw3.symm; subst hw3'; have HSH : Hid (Wl w (w2.alloc (.cells #[.int .i64 k, .int .i64 0, .slice none 0 0, .slice none 0 0] 28)) R g ws 1 w2.heap.size (w2.heap.size + 1) k 0 none 0 0 [] none 0 0 none 0 0 [] (fun _ => .slice none 0 0)) := HP2.out w2 k H2.out.1 H2.out.2; obtain ⟨p0, p1, p2, p3, p4, p5, p6, p7⟩ := cells4 HSH.out.box)
          | (go_at_call 46; (with_reducible refine (hM _).mono ?_); clear hM; rintro e w4 ⟨rfl, hw4⟩; have hw4' := hw4.symm; subst hw4'; have hX1 := HX1.out _ HSH.out.wd)
          | (go_at_call 68; have hq := hX1; clear hX1; (with_reducible refine hq.mono ?_); clear hq; rintro e w5 ⟨rfl, H5⟩; have HS5 : Hid (Wl w w5 R g ws 2 w2.heap.size (w2.heap.size + 1) k 0 none 0 0 [] none 0 0 none 0 0 [] (fun _ => .slice none 0 0)) := HSH.out.next H5.out.2 H5.out.1; have hN1 := HN1.out w5 HS5.out.chg)
          | (go_at_call 69; (with_reducible refine hN1.mono ?_); clear hN1; rintro e w6 ⟨rfl, hb6⟩; have HS6 : Hid (Wl w w6 R g ws 2 w2.heap.size (w2.heap.size + 1) k 0 none 0 0 [] none 0 0 none 0 0 [] (fun _ => .slice none 0 0)) := HS5.out.mem hb6; obtain ⟨p0, p1, p2, p3, p4, p5, p6, p7⟩ := cells4 HS6.out.box; have HS7 : Hid (Wl w (w6.setCell ⟨w2.heap.size, 1, none⟩ (.int .i64 f)) R g ws 2 w2.heap.size (w2.heap.size + 1) k f none 0 0 [] none 0 0 none 0 0 [] (fun _ => .slice none 0 0)) := HS6.out.setM (f2 := f) rfl ⟨rfl, rfl⟩; have hX2 := HX2.out _ HS7.out.wd; clear hb6)
          | (go_at_call 68; have hq := hX2; clear hX2; (with_reducible refine hq.mono ?_); clear hq; rintro e w8 ⟨rfl, hw8⟩))
        subst hw8
        exact ⟨rfl, HS7.out.chg, .inr ⟨by rw [HRW2.out, List.drop_of_length_le (by omega)]; rfl, rfl⟩⟩
      obtain ⟨wj, hwj⟩ : ∃ x, x = ws.getD 2 [] := ⟨_, rfl⟩
      have HX2 : Hid (∀ u, WdR u R g ws 2 → Calls Tryz.prog 68 #[.pointer (some ⟨R, 0, none⟩)] u fun e w' => e = .returned (.string (str wj)) ∧ Hid (WdR w' R g ws 3 ∧ Chg u w' R (R + 1))) := fun u hu => by rw [hwj]; exact next_ok hu hj
      have hwjl : wj.length ≤ 1048576 := HLN.out wj (by rw [hwj]; exact getD_mem hj)
      have edj : ws.drop 2 = wj :: ws.drop 3 := by
        rw [List.drop_eq_getElem_cons hj, hwj, List.getD, List.getElem?_eq_getElem hj]; rfl
      have HRW3 : Hid (rwords ws = rrest k f (wj :: ws.drop 3)) := by show _ = _; rw [HRW2.out, edj]
      have HRF : Hid (∀ u, Chg w u R (R + 1) → Calls Tryz.prog 70 #[.string (str wj)] u fun e w' => OutRs u w' e wj) := fun u hu => readRefs_any wj mx u hwjl (HG.out u hu).ml (HG.out u hu).er (HG.out u hu).tb
      have HJ : Hid (3 ≤ ws.length) := by show _ ≤ _; omega
      clear edj hwj
      cases hrs : mapO rref (cutL 43 wj) with
      | none =>
        have HRF2 : Hid (∀ u, Chg w u R (R + 1) → Calls Tryz.prog 70 #[.string (str wj)] u fun e w' => e = .panicked pnC ∧ Below u.heap.size u w') := fun u hu => (HRF.out u hu).mono fun e w' ⟨hb, h⟩ => by
          rcases h with ⟨va, vn, vc, rs, q, _⟩ | ⟨_, q⟩
          · rw [hrs] at q; cases q
          · exact ⟨q, hb⟩
        go_enter Tryz.func41, Tryz.ntmps41
        go_wp2_with (first
          | (go_at_call 68; have hq := hX0; clear hX0; (with_reducible refine hq.mono ?_); clear hq; rintro e w2 ⟨rfl, H2⟩; have hK := HK.out w2 (HC2.out w2 H2.out.2))
          | (go_at_call 67; (with_reducible refine hK.mono ?_); clear hK; rintro e w3 ⟨rfl, hw3⟩; have hw3' := hw3.symm; subst hw3'; have HSH : Hid (Wl w (w2.alloc (.cells #[.int .i64 k, .int .i64 0, .slice none 0 0, .slice none 0 0] 28)) R g ws 1 w2.heap.size (w2.heap.size + 1) k 0 none 0 0 [] none 0 0 none 0 0 [] (fun _ => .slice none 0 0)) := HP2.out w2 k H2.out.1 H2.out.2; obtain ⟨p0, p1, p2, p3, p4, p5, p6, p7⟩ := cells4 HSH.out.box)
          | (go_at_call 46; (with_reducible refine (hM _).mono ?_); clear hM; rintro e w4 ⟨rfl, hw4⟩; have hw4' := hw4.symm; subst hw4'; have hX1 := HX1.out _ HSH.out.wd)
          | (go_at_call 68; have hq := hX1; clear hX1; (with_reducible refine hq.mono ?_); clear hq; rintro e w5 ⟨rfl, H5⟩; have HS5 : Hid (Wl w w5 R g ws 2 w2.heap.size (w2.heap.size + 1) k 0 none 0 0 [] none 0 0 none 0 0 [] (fun _ => .slice none 0 0)) := HSH.out.next H5.out.2 H5.out.1; have hN1 := HN1.out w5 HS5.out.chg)
          | (go_at_call 69; (with_reducible refine hN1.mono ?_); clear hN1; rintro e w6 ⟨rfl, hb6⟩; have HS6 : Hid (Wl w w6 R g ws 2 w2.heap.size (w2.heap.size + 1) k 0 none 0 0 [] none 0 0 none 0 0 [] (fun _ => .slice none 0 0)) := HS5.out.mem hb6; obtain ⟨p0, p1, p2, p3, p4, p5, p6, p7⟩ := cells4 HS6.out.box; have HS7 : Hid (Wl w (w6.setCell ⟨w2.heap.size, 1, none⟩ (.int .i64 f)) R g ws 2 w2.heap.size (w2.heap.size + 1) k f none 0 0 [] none 0 0 none 0 0 [] (fun _ => .slice none 0 0)) := HS6.out.setM (f2 := f) rfl ⟨rfl, rfl⟩; have hX2 := HX2.out _ HS7.out.wd; clear hb6)
          | (go_at_call 68; have hq := hX2; clear hX2; (with_reducible refine hq.mono ?_); clear hq; rintro e w8 ⟨rfl, H8⟩; have HS8 : Hid (Wl w w8 R g ws 3 w2.heap.size (w2.heap.size + 1) k f none 0 0 [] none 0 0 none 0 0 [] (fun _ => .slice none 0 0)) := HS7.out.next H8.out.2 H8.out.1; have hRF := HRF2.out w8 HS8.out.chg)
          | (go_at_call 70; (with_reducible refine hRF.mono ?_); clear hRF; rintro e w9 ⟨rfl, hb9⟩))
        exact ⟨rfl, (HS8.out.mem hb9).chg, .inr ⟨by rw [HRW3.out, rrest, hrs], rfl⟩⟩
      | some rs =>
      have HRF2 : Hid (∀ u, Chg w u R (R + 1) → Calls Tryz.prog 70 #[.string (str wj)] u fun e w' => ∃ ia ic, e = .returned (.slice ia rs.length ic) ∧ Hid (World.ownsRow w' u.heap.size 65 2 (.slice ia rs.length ic) rs.length (gcells rs)) ∧ Hid (Below u.heap.size u w')) := fun u hu => (HRF.out u hu).mono fun e w' ⟨hb, h⟩ => by
        rcases h with ⟨va, vn, vc, rs', q, q2, q3⟩ | ⟨q, _⟩
        · rw [hrs] at q
          cases q
          obtain rfl := row_vn q3
          exact ⟨va, vc, q2, q3, hb⟩
        · rw [hrs] at q; cases q
      obtain ⟨n, hnl⟩ : ∃ n, n = rs.length := ⟨_, rfl⟩
      rw [← hnl] at HRF2
      have HNL : Hid (rs.length = n) := hnl.symm
      have HSOME : Hid (∀ os, mapO rout (ws.drop 3) = some os → rwords ws = some ⟨k, f, rs, os⟩) := fun os ho => by rw [HRW3.out, rrest, hrs, ho]
      have HNONE : Hid (mapO rout (ws.drop 3) = none → rwords ws = none) := fun ho => by rw [HRW3.out, rrest, hrs, ho]
      clear hrs hnl
      go_enter Tryz.func41, Tryz.ntmps41
      go_wp2_with (first
        | (go_at_call 68; have hq := hX0; clear hX0; (with_reducible refine hq.mono ?_); clear hq; rintro e w2 ⟨rfl, H2⟩; have hK := HK.out w2 (HC2.out w2 H2.out.2))
        | (go_at_call 67; (with_reducible refine hK.mono ?_); clear hK; rintro e w3 ⟨rfl, hw3⟩; have hw3' := hw3.symm; subst hw3'; have HSH : Hid (Wl w (w2.alloc (.cells #[.int .i64 k, .int .i64 0, .slice none 0 0, .slice none 0 0] 28)) R g ws 1 w2.heap.size (w2.heap.size + 1) k 0 none 0 0 [] none 0 0 none 0 0 [] (fun _ => .slice none 0 0)) := HP2.out w2 k H2.out.1 H2.out.2; obtain ⟨p0, p1, p2, p3, p4, p5, p6, p7⟩ := cells4 HSH.out.box)
        | (go_at_call 46; (with_reducible refine (hM _).mono ?_); clear hM; rintro e w4 ⟨rfl, hw4⟩; have hw4' := hw4.symm; subst hw4'; have hX1 := HX1.out _ HSH.out.wd)
        | (go_at_call 68; have hq := hX1; clear hX1; (with_reducible refine hq.mono ?_); clear hq; rintro e w5 ⟨rfl, H5⟩; have HS5 : Hid (Wl w w5 R g ws 2 w2.heap.size (w2.heap.size + 1) k 0 none 0 0 [] none 0 0 none 0 0 [] (fun _ => .slice none 0 0)) := HSH.out.next H5.out.2 H5.out.1; have hN1 := HN1.out w5 HS5.out.chg)
        | (go_at_call 69; (with_reducible refine hN1.mono ?_); clear hN1; rintro e w6 ⟨rfl, hb6⟩; have HS6 : Hid (Wl w w6 R g ws 2 w2.heap.size (w2.heap.size + 1) k 0 none 0 0 [] none 0 0 none 0 0 [] (fun _ => .slice none 0 0)) := HS5.out.mem hb6; obtain ⟨p0, p1, p2, p3, p4, p5, p6, p7⟩ := cells4 HS6.out.box; have HS7 : Hid (Wl w (w6.setCell ⟨w2.heap.size, 1, none⟩ (.int .i64 f)) R g ws 2 w2.heap.size (w2.heap.size + 1) k f none 0 0 [] none 0 0 none 0 0 [] (fun _ => .slice none 0 0)) := HS6.out.setM (f2 := f) rfl ⟨rfl, rfl⟩; have hX2 := HX2.out _ HS7.out.wd; clear hb6)
        | (go_at_call 68; have hq := hX2; clear hX2; (with_reducible refine hq.mono ?_); clear hq; rintro e w8 ⟨rfl, H8⟩; have HS8 : Hid (Wl w w8 R g ws 3 w2.heap.size (w2.heap.size + 1) k f none 0 0 [] none 0 0 none 0 0 [] (fun _ => .slice none 0 0)) := HS7.out.next H8.out.2 H8.out.1; have hRF := HRF2.out w8 HS8.out.chg)
        | (go_at_call 70; (with_reducible refine hRF.mono ?_); clear hRF; rintro e w9 ⟨ia, ic, rfl, HO9, HB9⟩; have HS9 : Hid (Wl w w9 R g ws 3 w2.heap.size (w2.heap.size + 1) k f none 0 0 [] none 0 0 none 0 0 [] (fun _ => .slice none 0 0)) := HS8.out.mem HB9.out; obtain ⟨p0, p1, p2, p3, p4, p5, p6, p7⟩ := cells4 HS9.out.box; have HSI : Hid (Wl w (w9.setCell ⟨w2.heap.size, 2, none⟩ (.slice ia n ic)) R g ws 3 w2.heap.size w9.heap.size k f ia n ic rs none 0 0 none 0 0 [] (fun _ => .slice none 0 0)) := HS9.out.setI (ia2 := ia) (n2 := n) (ic2 := ic) (rs2 := rs) rfl ⟨rfl, rfl⟩ (Joins.ownsRow_le HO9.out (by have := HS8.out.chg.size; omega)) (fun b hb e => by have h1 := (HO9.out.lt b hb).1; have h2 := HS8.out.ord; omega)))
      have HL0 := HSI
      obtain ⟨T, hT⟩ : ∃ T, T = w2.heap.size := ⟨_, rfl⟩
      obtain ⟨mid, hmid⟩ : ∃ z, z = w9.heap.size := ⟨_, rfl⟩
      obtain ⟨W9, hW9⟩ : ∃ z, z = w9.setCell ⟨w2.heap.size, 2, none⟩ (.slice ia n ic) := ⟨_, rfl⟩
      rw [← hW9, ← hT, ← hmid] at HL0
      rw [← hW9, ← hT]
      clear HSI HSH p0 p1 p2 p3 p4 p5 p6 p7 hW9 hT hmid HS9 HS8
      go_loopw [19] (fun _ wr => Hid (∃ i m os oa oc kv, i = 3 + m ∧ i ≤ ws.length ∧ ((ws.drop 3).take m).map rout = os.map some ∧ Wl w wr R g ws i T mid k f ia n ic rs oa m oc oa m oc os kv)) (fun _ wr => leftW R wr)
      case atStart => exact ⟨3, 0, [], none, 0, fun _ => .slice none 0 0, rfl, HJ.out, rfl, HL0.out⟩
      case round =>
        obtain ⟨i, m, os, oa, oc, kv, hi0, hile, hos, HWl⟩ := (show Hid (∃ i m os oa oc kv, i = 3 + m ∧ i ≤ ws.length ∧ ((ws.drop 3).take m).map rout = os.map some ∧ Wl w wr R g ws i T mid k f ia n ic rs oa m oc oa m oc os kv) from hrel).out
        obtain ⟨la, hbx, hla⟩ := HWl.wd.box
        obtain ⟨N, hN⟩ : ∃ N, N = ws.length - i := ⟨_, rfl⟩
        rw [← hN] at hbx
        have c0 : wr.cell? ⟨R, 0, none⟩ = some (.slice la N N) := by unfold World.cell?; rw [hbx]; rfl
        have HN : Hid (N = ws.length - i) := hN
        have HOS : Hid (((ws.drop 3).take m).map rout = os.map some) := hos
        have HIJ : Hid (i = 3 + m ∧ i ≤ ws.length) := ⟨hi0, hile⟩
        have HOL : Hid (os.length = m) := outs_len hos (by omega)
        have HWL : Hid (Wl w wr R g ws i T mid k f ia n ic rs oa m oc oa m oc os kv) := HWl
        have hfew := HWl.wd.few
        have hm6 : m ≤ 1100000 := by omega
        by_cases hil : i < ws.length
        · obtain rfl := hla hil
          have hN2 : (0 : Int) < (N : Int) := by omega
          have hN3 : decide ((0 : Int) < (N : Int)) = true := decide_eq_true hN2
          have hN4 : 0 < N := by omega
          obtain ⟨wi, hwi⟩ : ∃ x, x = ws.getD i [] := ⟨_, rfl⟩
          have HWI : Hid (wi = ws.getD i []) := hwi
          have hmem : wi ∈ ws := by rw [hwi]; exact getD_mem hil
          have hwl : wi.length ≤ 1048576 := HLN.out wi hmem
          have HWM : Hid (wi ∈ ws.drop 3) := by
            have e : (ws.drop 3)[m]? = some wi := by rw [List.getElem?_drop, ← hi0, hwi, List.getD, List.getElem?_eq_getElem hil]; rfl
            exact List.mem_of_getElem? e
          clear hN hos hi0 hile HWl hbx hla hwi hmem
          go_wp2
          refine wp_region_any (by kernel_rfl) ?_
          change wpAny _ _ _ _ _ _ _ (World.drew _)
          refine wpAny_inv (fun L a v => ∃ (b0 b1 b2 b3 b4 b5 b6 b7 b8 : Bool) (x25 x26 x27 x28 x29 x30 x31 x32 : Value), L = #[b0, b1, b2, b3, b4, b5, b6, b7, b8] ∧ a = { tmps := #[.pointer (some ⟨R, 0, none⟩), undef, .pointer (some ⟨w.heap.size, 0, none⟩), .pointer (some ⟨T, 0, none⟩), .pointer (some ⟨R, 0, none⟩), .string (str w0), .int .i64 k, .agg #[.int .i64 k, .int .i64 0, .slice none 0 0, .slice none 0 0], .pointer (some ⟨T, 0, none⟩), .int .i64 k, .bool true, .pointer (some ⟨R, 0, none⟩), .string (str w1), .int .i64 f, .pointer (some ⟨T, 1, none⟩), .pointer (some ⟨R, 0, none⟩), .string (str wj), .slice ia n ic, .pointer (some ⟨T, 2, none⟩), .pointer (some ⟨R, 0, none⟩), .pointer (some ⟨R, 0, none⟩), .pointer (some ⟨R, 0, none⟩), .slice (some ⟨g, i, none⟩) N N, .int .i64 (N : Nat), .bool true, x25, x26, x27, x28, x29, x30, x31, x32, undef], defers := [] } ∧ Rr9 w R g ws i T mid k f ia n ic rs oa m oc os kv wi v b0 b1 b2 b3 b4 b5 b6 b7 b8 x25 x26 x27 x28 x29 x30 x31 x32) ?step ?done _ _ _ _ (by simp) ?start
          case start =>
            refine ⟨false, false, false, false, false, false, false, false, false, _, _, _, _, _, _, _, _, rfl, rfl, ?_⟩
            exact { s0 := fun _ => HWL.out.mem (Below.refl _ _).drew, s3 := fun h => (by cases h), s6 := fun h => (by cases h), s8 := fun h => (by cases h), f0 := fun h => (by cases h), f1 := fun h => (by cases h), f2 := fun h => (by cases h), f3 := fun h => (by cases h), f4 := fun h => (by cases h), f5 := fun h => (by cases h), f7 := fun h => (by cases h), o4 := fun h => (by cases h), o5 := fun h => (by cases h), o6 := fun h => (by cases h), o61 := fun h => (by cases h), o8 := fun h => (by cases h) }
          case done =>
            rintro L a v ⟨b0, b1, b2, b3, b4, b5, b6, b7, b8, x25, x26, x27, x28, x29, x30, x31, x32, rfl, rfl, H⟩ hr
            have hall := ready_all (by kernel_rfl) hr
            obtain rfl : b8 = true := hall 8 (by decide)
            obtain ⟨q, g', cap, kv', hq, HF⟩ := H.s8 rfl
            have HFF : Hid (Wl w v R g ws (i + 1) T mid k f ia n ic rs (some ⟨g', 0, none⟩) (m + 1) cap (some ⟨g', 0, none⟩) (m + 1) cap (os ++ [q]) kv') := HF
            have HQ : Hid (rout wi = some q) := hq
            have hleft : leftW R v < leftW R wr := by rw [HF.wd.left, HWL.out.wd.left]; omega
            clear HF hq H hr hall
            go_wp2
            go_roundw
            case rel => exact ⟨i + 1, m + 1, os ++ [q], some ⟨g', 0, none⟩, cap, kv', by have := HIJ.out.1; omega, by omega, outs_at HOS.out HIJ.out.1 hil (by rw [← HWI.out]; exact HQ.out), HFF.out⟩
            case measure => exact hleft
          case step =>
            rintro L a v i' ⟨b0, b1, b2, b3, b4, b5, b6, b7, b8, x25, x26, x27, x28, x29, x30, x31, x32, rfl, rfl, H⟩ hi
            have hlt : i' < 9 := ready_lt hi
            obtain rfl | rfl | rfl | rfl | rfl | rfl | rfl | rfl | rfl : i' = 0 ∨ i' = 1 ∨ i' = 2 ∨ i' = 3 ∨ i' = 4 ∨ i' = 5 ∨ i' = 6 ∨ i' = 7 ∨ i' = 8 := by omega
            · obtain rfl : b0 = false := ready_new hi
              refine wpOp_run (o := _) rfl (fun K hK => ?_)
              go_simp
              refine hK _ _ ?_
              exact ⟨_, _, _, _, _, _, _, _, _, _, _, _, _, _, _, _, _, rfl, rfl, { H with f0 := fun _ => rfl }⟩
            · obtain rfl : b1 = false := ready_new hi
              obtain rfl : b0 = true := ready_dep (d := 0) hi (by kernel_rfl)
              obtain rfl : b6 = false := Bool.eq_false_iff.2 (fun h => by have := H.o61 h; cases this)
              obtain rfl : b8 = false := Bool.eq_false_iff.2 (fun h => by have := H.o8 h; cases this)
              obtain rfl := H.f0 rfl
              have hbT : v.heap[T]? = some (.cells #[.int .i64 k, .int .i64 f, .slice ia n ic, .slice oa m oc] 28 (0, 0)) := by
                cases b3
                · exact (H.s0 rfl).box
                · exact (H.s3 rfl rfl).box
              obtain ⟨y0, y1, y2, y3, _⟩ := cells4 hbT
              refine wpOp_run (o := _) rfl (fun K hK => ?_)
              go_simp
              refine hK _ _ ?_
              exact ⟨_, _, _, _, _, _, _, _, _, _, _, _, _, _, _, _, _, rfl, rfl, { H with f1 := fun _ => rfl, o61 := fun h => (by cases h) }⟩
            · obtain rfl : b2 = false := ready_new hi
              refine wpOp_run (o := _) rfl (fun K hK => ?_)
              go_simp
              refine hK _ _ ?_
              exact ⟨_, _, _, _, _, _, _, _, _, _, _, _, _, _, _, _, _, rfl, rfl, { H with f2 := fun _ => rfl }⟩
            · obtain rfl : b3 = false := ready_new hi
              obtain rfl : b2 = true := ready_dep (d := 2) hi (by kernel_rfl)
              obtain rfl : b4 = false := Bool.eq_false_iff.2 (fun h => by have := H.o4 h; cases this)
              obtain rfl : b5 = false := Bool.eq_false_iff.2 (fun h => by have := H.o5 h; cases this)
              obtain rfl : b6 = false := Bool.eq_false_iff.2 (fun h => by have := H.o6 h; cases this)
              obtain rfl : b8 = false := Bool.eq_false_iff.2 (fun h => by have := H.o8 h; cases this)
              obtain rfl := H.f2 rfl
              have HWl := H.s0 rfl
              have hW := next_ok HWl.wd hil
              rw [← HWI.out] at hW
              refine wpOp_run (o := _) rfl (fun K hK => ?_)
              go_simp
              go_at_call 68
              refine hW.mono ?_
              rintro e v5 ⟨rfl, h5⟩
              show K _ _
              refine hK _ _ ?_
              exact ⟨_, _, _, _, _, _, _, _, _, _, _, _, _, _, _, _, _, rfl, rfl, { H with s0 := fun h => (by cases h), s3 := fun _ _ => HWl.next h5.out.2 h5.out.1, f3 := fun _ => rfl, o4 := fun h => (by cases h), f4 := fun h => (by cases h), f5 := fun h => (by cases h), s6 := fun h => (by cases h), s8 := fun h => (by cases h) }⟩
            · obtain rfl : b4 = false := ready_new hi
              obtain rfl : b3 = true := ready_dep (d := 3) hi (by kernel_rfl)
              obtain rfl : b5 = false := Bool.eq_false_iff.2 (fun h => by have := H.o5 h; cases this)
              obtain rfl : b6 = false := Bool.eq_false_iff.2 (fun h => by have := H.o6 h; cases this)
              obtain rfl : b8 = false := Bool.eq_false_iff.2 (fun h => by have := H.o8 h; cases this)
              obtain rfl := H.f3 rfl
              have HWl := H.s3 rfl rfl
              have hG := HG.out v HWl.chg
              have hW := readOut_any wi mx v hwl hG.ml hG.er hG.tb
              refine wpOp_run (o := _) rfl (fun K hK => ?_)
              go_simp
              go_at_call 71
              refine hW.mono ?_
              rintro e v5 ⟨hb5, ⟨q, va, vc, hq, rfl, hO⟩ | ⟨hq, rfl⟩⟩
              · show K _ _
                refine hK _ _ ?_
                exact ⟨_, _, _, _, _, _, _, _, _, _, _, _, _, _, _, _, _, rfl, rfl, { H with s0 := fun h => (by cases h), s3 := fun _ _ => HWl.mem hb5, f4 := fun _ _ => ⟨q, va, vc, v.heap.size, hq, rfl, hO, HWl.ord.2.2.2.2, fun z hz b hb => (HWl.out.keys z hz).2 b hb⟩, f5 := fun h => (by cases h), s6 := fun h => (by cases h), s8 := fun h => (by cases h), o4 := fun _ => rfl, o5 := fun h => (by cases h) }⟩
              · exact ⟨rfl, (HWl.mem hb5).chg, .inr ⟨HNONE.out (mapO_none HWM.out hq), rfl⟩⟩
            · obtain rfl : b5 = false := ready_new hi
              obtain rfl : b4 = true := ready_dep (d := 4) hi (by kernel_rfl)
              obtain rfl : b6 = false := Bool.eq_false_iff.2 (fun h => by have := H.o6 h; cases this)
              obtain rfl : b8 = false := Bool.eq_false_iff.2 (fun h => by have := H.o8 h; cases this)
              obtain rfl : b3 = true := H.o4 rfl
              have HWl := H.s3 rfl rfl
              obtain ⟨q, va, vc, B3, hq, e29, hO, hB3, hkv⟩ := H.f4 rfl rfl
              subst e29
              refine wpOp_run (o := _) rfl (fun K hK => ?_)
              go_simp
              refine hK _ _ ?_
              exact ⟨_, _, _, _, _, _, _, _, _, _, _, _, _, _, _, _, _, rfl, rfl, { H with s0 := fun h => (by cases h), s3 := fun _ _ => HWl.mem (below_box _), f4 := fun _ h => (by cases h), f5 := fun _ _ => ⟨q, va, vc, B3, v.heap.size, hq, rfl, heap_alloc_new _ _, hO.alloc _, hB3, hkv⟩, s6 := fun h => (by cases h), s8 := fun h => (by cases h), o5 := fun _ => rfl, o6 := fun h => (by cases h) }⟩
            · obtain rfl : b6 = false := ready_new hi
              obtain rfl : b1 = true := ready_dep (d := 1) hi (by kernel_rfl)
              obtain rfl : b5 = true := ready_dep (d := 5) hi (by kernel_rfl)
              obtain rfl : b8 = false := Bool.eq_false_iff.2 (fun h => by have := H.o8 h; cases this)
              obtain rfl : b4 = true := H.o5 rfl
              obtain rfl : b3 = true := H.o4 rfl
              have HWl := H.s3 rfl rfl
              obtain ⟨q, va, vc, B3, X, hq, e30, hX, hO, hB3, hkv⟩ := H.f5 rfl rfl
              obtain rfl := H.f1 rfl
              subst e30
              have hext : OOwn v mid v.heap.size (.slice oa m oc) m (fun z => (os ++ [q]).getD z O0) kv := HWl.out.ext fun z hz => by
                show os.getD z O0 = (os ++ [q]).getD z O0
                rw [List.getD, List.getD, List.getElem?_append_left (by rw [HOL.out]; exact hz)]
              obtain ⟨g', cap, v6, hrun, HA⟩ := out_added (o := q) (u := .slice va q.l.length vc) hext hX rfl (Joins.ownsRow_le hO hB3) (fun z hz b hb e => by have h1 := hkv z hz b hb; have h2 := (hO.lt b e).1; omega) hm6 HWl.ord.2.2.2.2 (by show (os ++ [q]).getD m O0 = q; rw [List.getD, List.getElem?_append_right (by rw [HOL.out]; exact Nat.le_refl _), HOL.out]; simp)
              have hbm : Below mid v v6 := (Below.refl _ _).grown HA.out.2 HWl.ord.2.2.2.2 (fun b hb => by obtain ⟨zs, h1, _⟩ := HWl.out.row; exact (h1.lt b hb).1)
              refine wpOp_run (o := _) rfl (fun K hK => ?_)
              refine step_append_run (by rfl) _ _ _ (by rfl) (by rfl) (by rfl) hrun ?_
              refine hK _ _ ?_
              exact ⟨_, _, _, _, _, _, _, _, _, _, _, _, _, _, _, _, _, rfl, rfl, { H with s0 := fun h => (by cases h), s3 := fun _ h => (by cases h), f4 := fun _ h => (by cases h), f5 := fun _ h => (by cases h), s6 := fun _ _ => ⟨q, g', cap, _, hq, rfl, HWl.app hbm HA.out.1⟩, s8 := fun h => (by cases h), o6 := fun _ => rfl, o61 := fun _ => rfl, o8 := fun h => (by cases h) }⟩
            · obtain rfl : b7 = false := ready_new hi
              refine wpOp_run (o := _) rfl (fun K hK => ?_)
              go_simp
              refine hK _ _ ?_
              exact ⟨_, _, _, _, _, _, _, _, _, _, _, _, _, _, _, _, _, rfl, rfl, { H with f7 := fun _ => rfl }⟩
            · obtain rfl : b8 = false := ready_new hi
              obtain rfl : b6 = true := ready_dep (d := 6) hi (by kernel_rfl)
              obtain rfl : b7 = true := ready_dep (d := 7) hi (by kernel_rfl)
              obtain ⟨q, g', cap, kv', hq, e31, HWl⟩ := H.s6 rfl rfl
              subst e31
              obtain rfl := H.f7 rfl
              obtain rfl : b5 = true := H.o6 rfl
              obtain rfl : b4 = true := H.o5 rfl
              obtain rfl : b3 = true := H.o4 rfl
              obtain ⟨y0, y1, y2, y3, y4, y5, y6, y7⟩ := cells4 HWl.box
              refine wpOp_run (o := _) rfl (fun K hK => ?_)
              go_simp
              refine hK _ _ ?_
              exact ⟨_, _, _, _, _, _, _, _, _, _, _, _, _, _, _, _, _, rfl, rfl, { H with s0 := fun h => (by cases h), s3 := fun _ h => (by cases h), f4 := fun _ h => (by cases h), f5 := fun _ h => (by cases h), s6 := fun _ h => (by cases h), s8 := fun _ => ⟨q, g', cap, kv', hq, HWl.setO⟩, o8 := fun _ => rfl }⟩
        · have hN0 : N = 0 := by omega
          subst hN0
          obtain ⟨y0, y1, y2, y3, _⟩ := cells4 HWl.box
          obtain ⟨z0, z1, z2, z3, z4, z5, z6, z7⟩ := cells4 HWl.res
          obtain ⟨j0, j1, j2, j3⟩ := four_set HWl.res (.int .i64 k) (.int .i64 f) (.slice ia n ic) (.slice oa m oc)
          have HFIN : Hid (rwords ws = some ⟨k, f, rs, os⟩) := HSOME.out os (mapO_some (by rw [← hos, List.take_of_length_le (by rw [List.length_drop]; omega)]))
          have hRW : w.heap.size ≠ T := by have := HWl.ord; omega
          clear hos hi0 hile hbx hla HWl hN
          go_wp2
          refine bodyPost_ret (v := .agg #[.int .i64 k, .int .i64 f, .slice ia n ic, .slice oa m oc]) (by simp [results, Tryz.results41, go_sem, j0, j1, j2, j3]) rfl ?_
          have hW := HWL.out
          have ho := hW.ord
          have hcR : Chg wr (four w.heap.size wr (.int .i64 k) (.int .i64 f) (.slice ia n ic) (.slice oa m oc)) w.heap.size (w.heap.size + 1) := ((((Chg.refl _ _ _).setCell ⟨Nat.le_refl _, by omega⟩ _).setCell ⟨Nat.le_refl _, by omega⟩ _).setCell ⟨Nat.le_refl _, by omega⟩ _).setCell ⟨Nat.le_refl _, by omega⟩ _
          refine ⟨(((hW.chg.setNew (Nat.le_refl _) _).setNew (Nat.le_refl _) _).setNew (Nat.le_refl _) _).setNew (Nat.le_refl _) _, .inl ⟨⟨k, f, rs, os⟩, ia, ic, oa, oc, kv, mid, HFIN.out, ?_, ?_, ?_, ?_, by omega, Nat.le_trans ho.2.2.2.2 hcR.size⟩⟩
          · simp only [HOL.out, HNL.out]
          · simp only [HNL.out]
            refine hcR.row hW.ref fun b hb => ?_
            have h1 := (hW.ref.lt b hb).1
            by_cases e : b = w.heap.size
            · exfalso
              subst e
              rcases hW.ref.2 with ⟨q0, _⟩ | ⟨g', cap, cur, q0, _, hgb, _⟩
              · rw [q0] at hb; simp [Value.ownBlock] at hb
              · rw [q0] at hb
                have e2 : g' = w.heap.size := by simpa [Value.ownBlock] using hb
                subst e2
                rw [hW.res] at hgb
                cases hgb
            · exact .inr (by omega)
          · simp only [HNL.out]; exact hW.rlt
          · simp only [HOL.out]
            exact (hW.out.chg hcR (.inr (by omega))).up hcR.size

end Go.Proofs.YtciefdphjkjikaaGreatDoor

