/- Contracts of the document's own layer 2: six, Get. -/
import Derived.Test.YtajkcdcnihjfkaaEths2
import Derived.LoopN
namespace Go.Proofs.Ytajkcdcnihjfkaa
open Go.RowKit
set_option linter.unusedVariables false
set_option maxHeartbeats 2000000 in
theorem six_any (s : ByteArray) (a0 a1 a2 a3 a4 a5 : UInt8) (w : World) (h6 : 6 ≤ s.size) (hm : s.size ≤ 1000000)
    (e0 : s[0]'(by omega) = a0) (e1 : s[1]'(by omega) = a1) (e2 : s[2]'(by omega) = a2) (e3 : s[3]'(by omega) = a3) (e4 : s[4]'(by omega) = a4) (e5 : s[5]'(by omega) = a5) :
    Calls Try.prog 15 #[.string s] w fun e w' => e = .returned (.agg #[bv a0, bv a1, bv a2, bv a3, bv a4, bv a5]) ∧ Below w.heap.size w w' := by
  have k0 : (0 : Int) < (s.size : Int) := by omega
  have k1 : (1 : Int) < (s.size : Int) := by omega
  have k2 : (2 : Int) < (s.size : Int) := by omega
  have k3 : (3 : Int) < (s.size : Int) := by omega
  have k4 : (4 : Int) < (s.size : Int) := by omega
  have k5 : (5 : Int) < (s.size : Int) := by omega
  go_enter Try.func15, Try.ntmps15
  go_wp2
  refine wp_loop_rounds 7 ?_
  rw [rounds_succ]; go_wp2
  rw [rounds_succ]; go_wp2
  rw [rounds_succ]; go_wp2
  rw [rounds_succ]; go_wp2
  rw [rounds_succ]; go_wp2
  rw [rounds_succ]; go_wp2
  rw [rounds_succ]; go_wp2
  exact bodyPost_ret (v := .agg #[bv a0, bv a1, bv a2, bv a3, bv a4, bv a5]) (by simp [results, Try.results15, go_sem]) rfl ⟨rfl, below2 _ _ _⟩
theorem bcell {W w1 : World} (hb : Below W.heap.size W w1) : (∀ b o, b < W.heap.size → w1.cell? ⟨b, o, none⟩ = W.cell? ⟨b, o, none⟩) ∧ (∀ b o, b < W.heap.size → w1.frozen? ⟨b, o, none⟩ = W.frozen? ⟨b, o, none⟩) ∧ Hid (Below W.heap.size W w1) ∧ W.heap.size ≤ w1.heap.size :=
  ⟨fun b o h => hb.cell (p := ⟨b, o, none⟩) h, fun b o h => hb.frozen (p := ⟨b, o, none⟩) h, hb, hb.size⟩
theorem kept_new {w W w1 w2 : World} {A : Array Value} {t : TypeId} (hW : Below (w.heap.size + 1) (w.alloc (.cells A t)) W) (h1 : Below W.heap.size W w1) (h2 : Below w1.heap.size w1 w2) :
    (∀ o, w2.cell? ⟨w.heap.size, o, none⟩ = A[o]?) ∧ (∀ o, w2.frozen? ⟨w.heap.size, o, none⟩ = false) ∧ Hid (Below w.heap.size w w2) := by
  have hz : w.heap.size + 1 ≤ W.heap.size := by have := hW.size; simpa using this
  have hz1 := h1.size
  have hB : Below (w.heap.size + 1) (w.alloc (.cells A t)) w2 := hW.trans ((h1.mono hz).trans (h2.mono (by omega)))
  refine ⟨fun o => ?_, fun o => ?_, (below1 w _).trans (hB.mono (by omega))⟩
  · rw [hB.cell (by show w.heap.size < _; omega), World.cell?_alloc_new]
  · rw [hB.frozen (by show w.heap.size < _; omega)]
    simp
theorem row13 (w2 : World) (b : Nat) (v0 v1 v2 v3 v4 v5 v6 v7 v8 v9 v10 v11 v12 : Value) (h : ∀ j, j < 13 → (w2.cell? ⟨b, j, none⟩).isSome = true) :
    ∃ wx, w2.setCells b 0 [v0, v1, v2, v3, v4, v5, v6, v7, v8, v9, v10, v11, v12] = wx ∧ (∀ B a, B ≤ b → Below B a w2 → Below B a wx) ∧
    wx.cell? ⟨b, 0, none⟩ = some v0 ∧ wx.cell? ⟨b, 1, none⟩ = some v1 ∧ wx.cell? ⟨b, 2, none⟩ = some v2 ∧ wx.cell? ⟨b, 3, none⟩ = some v3 ∧ wx.cell? ⟨b, 4, none⟩ = some v4 ∧ wx.cell? ⟨b, 5, none⟩ = some v5 ∧ wx.cell? ⟨b, 6, none⟩ = some v6 ∧ wx.cell? ⟨b, 7, none⟩ = some v7 ∧ wx.cell? ⟨b, 8, none⟩ = some v8 ∧ wx.cell? ⟨b, 9, none⟩ = some v9 ∧ wx.cell? ⟨b, 10, none⟩ = some v10 ∧ wx.cell? ⟨b, 11, none⟩ = some v11 ∧ wx.cell? ⟨b, 12, none⟩ = some v12 := by
  have hin := World.cell?_setCells_in b [v0, v1, v2, v3, v4, v5, v6, v7, v8, v9, v10, v11, v12] 0 w2 (fun j hj => by rw [Nat.zero_add]; exact h j hj)
  refine ⟨_, rfl, fun B a hB hb => below_setCells hB _ _ _ hb, ?_⟩
  exact ⟨hin 0 (by simp), hin 1 (by simp), hin 2 (by simp), hin 3 (by simp), hin 4 (by simp), hin 5 (by simp), hin 6 (by simp), hin 7 (by simp), hin 8 (by simp), hin 9 (by simp), hin 10 (by simp), hin 11 (by simp), hin 12 (by simp)⟩
theorem twelve (s : ByteArray) (h : 14 ≤ s.size) : ∃ a0 a1 a2 a3 a4 a5 b0 b1 b2 b3 b4 b5 c0 c1 : UInt8, s.extract 0 6 = ⟨#[a0, a1, a2, a3, a4, a5]⟩ ∧ s.extract 6 12 = ⟨#[b0, b1, b2, b3, b4, b5]⟩ ∧ s.extract 12 14 = ⟨#[c0, c1]⟩ ∧
    (s[0]'(by omega) = a0 ∧ s[1]'(by omega) = a1 ∧ s[2]'(by omega) = a2 ∧ s[3]'(by omega) = a3 ∧ s[4]'(by omega) = a4 ∧ s[5]'(by omega) = a5) ∧
    (s[6]'(by omega) = b0 ∧ s[7]'(by omega) = b1 ∧ s[8]'(by omega) = b2 ∧ s[9]'(by omega) = b3 ∧ s[10]'(by omega) = b4 ∧ s[11]'(by omega) = b5) ∧
    s = ⟨#[a0, a1, a2, a3, a4, a5, b0, b1, b2, b3, b4, b5, c0, c1]⟩ ++ s.extract 14 s.size := by
  obtain ⟨a0, a1, a2, a3, a4, a5, ha, e0⟩ := bytes6 s 0 (by omega)
  obtain ⟨b0, b1, b2, b3, b4, b5, hb, f0⟩ := bytes6 s 6 (by omega)
  obtain ⟨c0, c1, hc, g0⟩ := bytes2 s 12 (by omega)
  refine ⟨a0, a1, a2, a3, a4, a5, b0, b1, b2, b3, b4, b5, c0, c1, ha, hb, hc, e0, f0, ?_⟩
  have h14 : s.extract 0 14 = ⟨#[a0, a1, a2, a3, a4, a5, b0, b1, b2, b3, b4, b5, c0, c1]⟩ := by
    rw [← cat14, ← ha, ← hb, ← hc]
    simp
  rw [← h14]
  simp
theorem six_at (s : ByteArray) (i j : Nat) (h : i + j < s.size) : (s.extract i s.size)[j]'(by simp; omega) = s[i + j] := by
  simp [ByteArray.getElem_extract]
set_option maxHeartbeats 400000 in
theorem refGet_short (s : ByteArray) (w : World) (h1 : s.size < 14) :
    Calls Try.prog 9 #[.string s] w fun e w' => e = .returned (.tuple #[.agg ethZ, .string ⟨#[]⟩, .int .i64 2]) ∧ Below w.heap.size w w' := by
  go_enter Try.func9, Try.ntmps9
  go_wp2
  exact bodyPost_ret (v := .tuple #[.agg ethZ, .string ⟨#[]⟩, .int .i64 2]) (by simp [results, Try.results9, go_sem]) rfl ⟨rfl, below1 _ _⟩
set_option maxHeartbeats 400000 in
theorem refGet_big (s : ByteArray) (w : World) (h1 : 3000 < s.size) (h2 : s.size ≤ 9223372036854775807) :
    Calls Try.prog 9 #[.string s] w fun e w' => e = .returned (.tuple #[.agg ethZ, .string ⟨#[]⟩, .int .i64 5]) ∧ Below w.heap.size w w' := by
  go_enter Try.func9, Try.ntmps9
  go_wp2
  exact bodyPost_ret (v := .tuple #[.agg ethZ, .string ⟨#[]⟩, .int .i64 5]) (by simp [results, Try.results9, go_sem]) rfl ⟨rfl, below1 _ _⟩
set_option maxHeartbeats 2000000 in
theorem refGet_ok (s s6 : ByteArray) (w : World) (h1 : 14 ≤ s.size) (h2 : s.size ≤ 3000) (h6 : s.extract 6 s.size = s6) (a0 a1 a2 a3 a4 a5 b0 b1 b2 b3 b4 b5 c0 c1 : UInt8)
    (ha : s.extract 0 6 = ⟨#[a0, a1, a2, a3, a4, a5]⟩) (hb : s.extract 6 12 = ⟨#[b0, b1, b2, b3, b4, b5]⟩) (hc : s.extract 12 14 = ⟨#[c0, c1]⟩)
    (six1 : ∀ w : World, Calls Try.prog 15 #[.string s] w fun e w' => e = .returned (.agg #[bv a0, bv a1, bv a2, bv a3, bv a4, bv a5]) ∧ Below w.heap.size w w')
    (six2 : ∀ w : World, Calls Try.prog 15 #[.string s6] w fun e w' => e = .returned (.agg #[bv b0, bv b1, bv b2, bv b3, bv b4, bv b5]) ∧ Below w.heap.size w w') :
    Calls Try.prog 9 #[.string s] w fun e w' => e = .returned (.tuple #[.agg (ethB a0 a1 a2 a3 a4 a5 b0 b1 b2 b3 b4 b5 ((c0.toNat : Int) * 256 + (c1.toNat : Int))), .string (s.extract 14 s.size), .int .i64 0]) ∧ Below w.heap.size w w' := by
  have k6 : (6 : Int) ≤ (s.size : Int) := by omega
  have k12 : (12 : Int) ≤ (s.size : Int) := by omega
  have k14 : (14 : Int) ≤ (s.size : Int) := by omega
  go_enter Try.func9, Try.ntmps9
  go_upto_region 5 with fail
  go_cut [3, 4] (fun s3 s4 wx => s3 = .string (s.extract 14 s.size) ∧ s4 = .int .i64 0 ∧ ∃ w2 : World, (∀ o, w2.cell? ⟨w.heap.size, o, none⟩ = ethZ[o]?) ∧ Below w.heap.size w w2 ∧ wx = w2.setCells w.heap.size 0 [bv a0, bv a1, bv a2, bv a3, bv a4, bv a5, bv b0, bv b1, bv b2, bv b3, bv b4, bv b5, .int .i64 ((c0.toNat : Int) * 256 + (c1.toNat : Int))])
  case first =>
    go_region_with (first | (go_at_call_of 15 s6; refine (six2 _).mono ?_; rintro e w2 ⟨rfl, hb2⟩; obtain ⟨hc2, hf2, HB2⟩ := kept_new (Below.refl _ _).drew HB1.out hb2; clear hb2 HB1) | (go_at_call 15; refine (six1 _).mono ?_; rintro e w1 ⟨rfl, hb1⟩; have HB1 := (show Hid (Below _ _ w1) from hb1); clear hb1) | (go_at_call 16; refine (refNum2 c0 c1 _).mono ?_; rintro e w' ⟨rfl, rfl⟩))
    all_goals
      go_wp2_with fail
      go_meet
      exact ⟨rfl, rfl, w2, hc2, HB2.out, rfl⟩
  case rest =>
    obtain ⟨rfl, rfl, w2, hc2, hb2, hwx⟩ := hcut
    obtain ⟨wy, hwy, hbel, q0, q1, q2, q3, q4, q5, q6, q7, q8, q9, q10, q11, q12⟩ := row13 w2 w.heap.size (bv a0) (bv a1) (bv a2) (bv a3) (bv a4) (bv a5) (bv b0) (bv b1) (bv b2) (bv b3) (bv b4) (bv b5) (.int .i64 ((c0.toNat : Int) * 256 + (c1.toNat : Int))) (fun j hj => by rw [hc2]; rw [Array.getElem?_eq_getElem (by exact hj)]; rfl)
    obtain rfl : wc = wy := hwx.trans hwy
    have HB := (show Hid (Below w.heap.size w wc) from hbel _ _ (Nat.le_refl _) hb2)
    clear hc2 hb2 hwx hwy hbel
    go_wp2_with fail
    exact bodyPost_ret (v := .tuple #[.agg (ethB a0 a1 a2 a3 a4 a5 b0 b1 b2 b3 b4 b5 ((c0.toNat : Int) * 256 + (c1.toNat : Int))), .string (s.extract 14 s.size), .int .i64 0]) (by simp [results, Try.results9, go_sem, q0, q1, q2, q3, q4, q5, q6, q7, q8, q9, q10, q11, q12]) rfl ⟨rfl, HB.out⟩
theorem refGet_any (s : ByteArray) (w : World) (h1 : 14 ≤ s.size) (h2 : s.size ≤ 3000) (a0 a1 a2 a3 a4 a5 b0 b1 b2 b3 b4 b5 c0 c1 : UInt8)
    (ha : s.extract 0 6 = ⟨#[a0, a1, a2, a3, a4, a5]⟩) (hb : s.extract 6 12 = ⟨#[b0, b1, b2, b3, b4, b5]⟩) (hc : s.extract 12 14 = ⟨#[c0, c1]⟩)
    (e : s[0]'(by omega) = a0 ∧ s[1]'(by omega) = a1 ∧ s[2]'(by omega) = a2 ∧ s[3]'(by omega) = a3 ∧ s[4]'(by omega) = a4 ∧ s[5]'(by omega) = a5)
    (f : s[6]'(by omega) = b0 ∧ s[7]'(by omega) = b1 ∧ s[8]'(by omega) = b2 ∧ s[9]'(by omega) = b3 ∧ s[10]'(by omega) = b4 ∧ s[11]'(by omega) = b5) :
    Calls Try.prog 9 #[.string s] w fun e w' => e = .returned (.tuple #[.agg (ethB a0 a1 a2 a3 a4 a5 b0 b1 b2 b3 b4 b5 ((c0.toNat : Int) * 256 + (c1.toNat : Int))), .string (s.extract 14 s.size), .int .i64 0]) ∧ Below w.heap.size w w' :=
  refGet_ok s _ w h1 h2 rfl a0 a1 a2 a3 a4 a5 b0 b1 b2 b3 b4 b5 c0 c1 ha hb hc
    (fun w => six_any s a0 a1 a2 a3 a4 a5 w (by omega) (by omega) e.1 e.2.1 e.2.2.1 e.2.2.2.1 e.2.2.2.2.1 e.2.2.2.2.2)
    (fun w => six_any (s.extract 6 s.size) b0 b1 b2 b3 b4 b5 w (by simp; omega) (by simp; omega)
      ((six_at s 6 0 (by omega)).trans f.1) ((six_at s 6 1 (by omega)).trans f.2.1) ((six_at s 6 2 (by omega)).trans f.2.2.1) ((six_at s 6 3 (by omega)).trans f.2.2.2.1) ((six_at s 6 4 (by omega)).trans f.2.2.2.2.1) ((six_at s 6 5 (by omega)).trans f.2.2.2.2.2))
end Go.Proofs.Ytajkcdcnihjfkaa
