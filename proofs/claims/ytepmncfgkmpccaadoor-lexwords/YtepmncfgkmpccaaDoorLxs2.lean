/- Layer 8: begins, frontOf, over whatever function on runes. -/
import Derived.Test.YtepmncfgkmpccaaDoorLxs
import Derived.Shelf.Abstract
import Derived.Deep.DeepMust
import Derived.Deep.LoopGhost
namespace Go.Proofs.YtepmncfgkmpccaaDoor
open Go.RowKit
set_option linter.unusedVariables false
set_option linter.unusedSimpArgs false

/-- function g tells whether a rune fits -/
def Fits (g : Nat) (p : Int → Bool) : Prop := (∀ args w, (callFunc g args).run Tryd.prog w = .ok (.enter g args) w) ∧ ∀ (r : Int) (w : World), Calls Tryd.prog g #[.int .i32 r] w fun e w' => e = .returned (.bool (p r)) ∧ w' = w
theorem fits_ofWord : Fits 21 Lx.ofWord := ⟨enters_of Tryd.func21 (by kernel_rfl) rfl, isOfWord_any⟩
theorem fits_letter : Fits 13 Lx.letter := ⟨enters_of Tryd.func13 (by kernel_rfl) rfl, isLetter_any⟩
theorem fits_digit : Fits 15 Lx.digit := ⟨enters_of Tryd.func15 (by kernel_rfl) rfl, isDigit_any⟩
theorem fits_inLine : Fits 10 Lx.inLine := ⟨enters_of Tryd.func10 (by kernel_rfl) rfl, isInLine_any⟩
theorem fits_escaped : Fits 26 Lx.escaped := ⟨enters_of Tryd.func26 (by kernel_rfl) rfl, isEscaped_any⟩
theorem begins_at (p : Int → Bool) (s : ByteArray) : Lx.begins p s.data.toList = (if h : 0 < s.size then p ((s[0]'h).toNat : Int) else false) := by
  rcases s with ⟨⟨l⟩⟩
  cases l with
  | nil => rfl
  | cons c l => rfl
theorem toList_data (s : ByteArray) : s.toList = s.data.toList := by rw [ByteArray.toList_eq]
theorem toList_ne (s : ByteArray) (h : 0 < s.size) : s.toList.isEmpty = false := by
  rw [toList_data]
  rcases s with ⟨⟨l⟩⟩
  cases l with
  | nil => exact absurd h (Nat.lt_irrefl 0)
  | cons c l => rfl
theorem toList_none (s : ByteArray) (h : ¬ 0 < s.size) : s.toList.isEmpty = true := by
  rw [toList_data]
  rcases s with ⟨⟨l⟩⟩
  cases l with
  | nil => rfl
  | cons c l => exact absurd (Nat.succ_pos _) h
set_option maxHeartbeats 1000000 in
theorem begins_any {g : Nat} {p : Int → Bool} (hg : Fits g p) (s : ByteArray) (w : World) (hs : s.size ≤ maxLen) :
    Calls Tryd.prog 22 #[.string s, .func (.func g) #[] #[]] w fun e w' => e = .returned (.bool (Lx.begins p s.data.toList)) ∧ w' = w := by
  obtain ⟨eg, cg⟩ := hg
  rw [begins_at]
  by_cases h : 0 < s.size
  · rw [dif_pos h]
    have hne := toList_ne s h
    have cS := cg ((s[0]'h).toNat : Int) w
    have hb := (s[0]'h).toNat_lt
    have hw : wrap32 ((s[0]'h).toNat : Int) = ((s[0]'h).toNat : Int) := by simp [wrap32]; omega
    clear hb
    generalize hr : p ((s[0]'h).toNat : Int) = b at cS
    go_enter Tryd.func22, Tryd.ntmps22
    go_wp2_with (go_at_fn g; go_must (refine cS.mono ?_; rintro e W' ⟨rfl, rfl⟩))
    all_goals go_ret
    all_goals exact ⟨rfl, rfl⟩
  · rw [dif_neg h]
    have hne := toList_none s h
    go_enter Tryd.func22, Tryd.ntmps22
    go_wp2
    all_goals go_ret
    all_goals exact ⟨rfl, rfl⟩
theorem drop_nil_of (s : ByteArray) (pos : Nat) (h : ¬ pos < s.size) : s.data.toList.drop pos = [] := List.drop_eq_nil_of_le (by simp; omega)
theorem drop_at' (s : ByteArray) (pos : Nat) (h : pos < s.size) : s.data.toList.drop pos = s.data.toList.getD pos 0 :: s.data.toList.drop (pos + 1) := Lx.drop_at _ _ (by simpa using h)
/-- over bytes that all fit the front goes on -/
theorem front_over (p : Int → Bool) (l : List UInt8) (i k : Nat) (h : ∀ j, i ≤ j → j < i + k → j < l.length ∧ Lx.bt p (l.getD j 0) = true) : (Lx.front p (l.drop i)).length = k + (Lx.front p (l.drop (i + k))).length := by
  induction k with
  | zero => simp
  | succ k ih =>
    rw [ih (fun j h1 h2 => h j h1 (by omega))]
    obtain ⟨h1, h2⟩ := h (i + k) (by omega) (by omega)
    rw [Lx.drop_at l (i + k) h1, Lx.front_cons, if_pos h2, List.length_cons]
    rw [show i + (k + 1) = i + k + 1 from rfl]
    omega
set_option maxHeartbeats 1000000 in
/-- the front, rune by rune; what fits is alike for all runes from 128 on -/
theorem frontOf_any {g : Nat} {p : Int → Bool} (hg : Fits g p) (s : ByteArray) (w : World) (hs : s.size ≤ maxLen) (hp : ∀ r : Int, 128 ≤ r → p r = p 128) :
    Calls Tryd.prog 9 #[.string s, .func (.func g) #[] #[]] w fun e w' => e = .returned (.int .i64 ((Lx.front p s.data.toList).length : Int)) ∧ Below w.heap.size w w' := by
  obtain ⟨eg, cg⟩ := hg
  obtain ⟨R, hR⟩ : ∃ R, (Lx.front p s.data.toList).length = R := ⟨_, rfl⟩
  rw [hR]
  have hlen : s.data.toList.length = s.size := by simp
  go_enter Tryd.func9, Tryd.ntmps9
  go_wp2
  go_loopg [] s.size (fun gk wx => ∃ pos : Nat, wx.heap[w.heap.size]? = some (.stringIter s pos) ∧ Below w.heap.size w wx ∧ Hid (pos + (Lx.front p (s.data.toList.drop pos)).length = R) ∧ s.size ≤ pos + gk ∧ pos ≤ s.size)
  case atStart =>
    refine ⟨0, World.iter_heap w s 0, below1 w _, (by show 0 + (Lx.front p (s.data.toList.drop 0)).length = R; rw [List.drop_zero, hR, Nat.zero_add]), by omega, by omega⟩
  case round =>
    obtain ⟨pos, hit, hbw, hH, hfu, hps⟩ := hrel
    by_cases hlt : pos < s.size
    · obtain ⟨g', rfl⟩ : ∃ g', gk = g' + 1 := ⟨gk - 1, by omega⟩
      have hnx : ∀ ty, (Instr.next (.pointer (some ⟨w.heap.size, 0, none⟩)) true ty).run Tryd.prog wr = _ := fun ty => Lib.run_next_any_at wr w.heap.size s pos ty hit hlt
      have hwn := Lx.rune_fits s pos hlt
      have hcons := drop_at' s pos hlt
      -- what the rune says of its bytes
      have hfit : 1 ≤ (Utf8.decode s pos).2 ∧ (p (((Utf8.decode s pos).1 : Nat) : Int) = true → pos + (Utf8.decode s pos).2 + (Lx.front p (s.data.toList.drop (pos + (Utf8.decode s pos).2))).length = R) ∧ (p (((Utf8.decode s pos).1 : Nat) : Int) = false → pos = R) := by
        have hH' : pos + (Lx.front p (s.data.toList.drop pos)).length = R := hH
        by_cases ha : (s.data.toList.getD pos 0).toNat < 128
        · rw [Lx.low_one s pos hlt ha]
          refine ⟨Nat.le_refl _, fun h => ?_, fun h => ?_⟩
          · rw [hcons, Lx.front_cons, if_pos (show Lx.bt p _ = true from h), List.length_cons] at hH'
            show pos + 1 + (Lx.front p (s.data.toList.drop (pos + 1))).length = R
            omega
          · rw [hcons, Lx.front_cons, if_neg (by rw [Lx.bt, h]; exact Bool.false_ne_true)] at hH'
            exact hH'
        · have hr := Lx.high_rune s pos hlt (by omega)
          have hall := Lx.high_all s pos (by omega)
          have hpr : p (((Utf8.decode s pos).1 : Nat) : Int) = p 128 := hp _ (by omega)
          refine ⟨hr.2, fun h => ?_, fun h => ?_⟩
          · rw [front_over p s.data.toList pos (Utf8.decode s pos).2 (fun j h1 h2 => ⟨by omega, ?_⟩)] at hH'
            · omega
            · rw [Lx.bt, hp _ (by have := hall j h1 h2; omega), ← hpr]
              exact h
          · rw [hcons, Lx.front_cons, if_neg ?_] at hH'
            · exact hH'
            · rw [Lx.bt, hp _ (by omega), ← hpr, h]
              exact Bool.false_ne_true
      obtain ⟨hwd, hyes, hno⟩ := hfit
      have hit2 := Lib.iterAt_heap wr w.heap.size s pos (pos + (Utf8.decode s pos).2) hit
      have hbw2 := Lib.below_iterAt hbw (k := w.heap.size) (Nat.le_refl _) s (pos + (Utf8.decode s pos).2)
      obtain ⟨K, hK⟩ : ∃ K, (Utf8.decode s pos).2 = K := ⟨_, rfl⟩
      obtain ⟨r, hr⟩ : ∃ r, (((Utf8.decode s pos).1 : Nat) : Int) = r := ⟨_, rfl⟩
      rw [hK] at hnx hit2 hbw2 hyes hwn hwd
      rw [hr] at hnx hyes hno
      obtain ⟨W, hWd⟩ : ∃ W, wr.iterAt w.heap.size s (pos + K) = W := ⟨_, rfl⟩
      rw [hWd] at hnx hit2 hbw2
      have cS := cg r W
      clear hit hbw hWd hH hcons
      cases hb : p r with
      | true =>
        rw [hb] at cS
        have hy : Hid (pos + K + (Lx.front p (s.data.toList.drop (pos + K))).length = R) := hyes hb
        clear hyes hno hb
        go_wp2_with (go_at_fn g; go_must (refine cS.mono ?_; rintro e W' ⟨rfl, rfl⟩))
        go_roundg g'
        case measure => omega
        case rel => exact ⟨pos + K, hit2, hbw2, hy, by omega, hwn⟩
      | false =>
        rw [hb] at cS
        have hn := hno hb
        clear hyes hno hb
        go_wp2_with (go_at_fn g; go_must (refine cS.mono ?_; rintro e W' ⟨rfl, rfl⟩))
        go_ret
        subst hn
        exact ⟨rfl, hbw2⟩
    · have hnx : ∀ ty, (Instr.next (.pointer (some ⟨w.heap.size, 0, none⟩)) true ty).run Tryd.prog wr = _ := fun ty => Lib.run_next_end_at wr w.heap.size s pos ty hit hlt
      have hn : s.size = R := by
        have hH' : pos + (Lx.front p (s.data.toList.drop pos)).length = R := hH
        rw [drop_nil_of s pos hlt] at hH'
        simp [Lx.front] at hH'
        omega
      clear hH
      go_wp2
      go_ret
      exact ⟨rfl, hbw⟩
end Go.Proofs.YtepmncfgkmpccaaDoor
