/- LexBytes: for any bytes and any ways, bytes as pairs of digits, as they are, or behind an escape, are these bytes; no condition. -/
import Derived.Test.YtihgifhkjiollaaDoorLxSide
import Derived.Test.YtihgifhkjiollaaDoorLift
import Derived.Test.YtihgifhkjiollaaDoorTie
import Derived.Test.YtihgifhkjiollaaDoorCards
import Derived.LaidMore
import Derived.Lay
import Derived.SevenTiedAt
import Derived.Stop.Joined
namespace Go.Proofs.YtihgifhkjiollaaDoor.lexBytes
open Go.ChangeShapes Go.WideShapes Go.ChangeAt Go.RowKit
open Go.ChangeMaps (open_string shut_string)
set_option linter.unusedVariables false
set_option maxRecDepth 20000

/-- what the walk is told of a slice of numbers that came in -/
def IsRow (k : IntKind) (w : World) (a : Option Addr) (len cap : Nat) (zs : List Int) : Prop :=
  (a = none ∧ len = 0 ∧ cap = 0 ∧ zs = []) ∨
  ∃ x, a = some x ∧ len ≤ cap ∧ cap ≤ maxLen ∧ zs.length = cap ∧ (∀ i, i < zs.length → w.cell? (x.add i) = some (.int k (zs.getD i 0))) ∧ ∀ n ∈ zs, (Lit.int k n).wf = true
theorem cell_lt {w : World} {p : Addr} {v : Value} (h : w.cell? p = some v) : p.block < w.heap.size := by
  by_cases hl : p.block < w.heap.size
  · exact hl
  · have : w.heap[p.block]? = none := Array.getElem?_eq_none (by omega)
    simp [World.cell?, this] at h
theorem IsRow.at {w : World} {a : Option Addr} {len cap : Nat} {zs : List Int} (h : IsRow .i64 w a len cap zs) : len ≤ 9223372036854775807 ∧ ∀ j, j < len → ∃ x : Addr, a = some x ∧ w.cell? (x.add j) = some (.int .i64 (zs.getD j 0)) := by
  rcases h with ⟨_, rfl, _⟩ | ⟨x, rfl, h1, h2, h3, h4, _⟩
  · exact ⟨by omega, fun j hj => absurd hj (Nat.not_lt_zero _)⟩
  · exact ⟨by unfold maxLen at h2; omega, fun j hj => ⟨x, rfl, h4 j (by omega)⟩⟩
/-- a row of bytes that came in, as bytes -/
theorem IsRow.bytes {w : World} {a : Option Addr} {len cap : Nat} {zs : List Int} (h : IsRow .u8 w a len cap zs) : len ≤ 9223372036854775807 ∧ ∃ bs : List UInt8, bs.length = len ∧ ∀ j, (hj : j < bs.length) → ∃ x : Addr, a = some x ∧ w.cell? (x.add j) = some (bv bs[j]) := by
  rcases h with ⟨_, rfl, _⟩ | ⟨x, rfl, h1, h2, h3, h4, h5⟩
  · exact ⟨by omega, [], rfl, fun j hj => absurd hj (Nat.not_lt_zero _)⟩
  · refine ⟨by unfold maxLen at h2; omega, (List.range len).map (fun j => UInt8.ofNat (zs.getD j 0).toNat), by simp, fun j hj => ⟨x, rfl, ?_⟩⟩
    have hjl : j < len := by simpa using hj
    rw [h4 j (by omega), List.getElem_map, List.getElem_range]
    have hm : zs.getD j 0 ∈ zs := by
      rw [List.getD, List.getElem?_eq_getElem (by omega)]
      exact List.getElem_mem _
    have hw := h5 _ hm
    have hb : 0 ≤ zs.getD j 0 ∧ zs.getD j 0 ≤ 255 := by
      simpa [Lit.wf, IntKind.min, IntKind.max, IntKind.bits, IntKind.signed] using hw
    unfold bv
    congr 2
    rw [UInt8.toNat_ofNat']
    omega
/-! ### what is read -/
theorem quoted_fuel : ∀ (f g : Nat) (l : List UInt8), l.length ≤ f → l.length ≤ g → Lx.quoted f l = Lx.quoted g l := by
  intro f
  induction f with
  | zero =>
    intro g l hf hg
    rw [List.eq_nil_of_length_eq_zero (by omega : l.length = 0), quoted_nil, quoted_nil]
  | succ f ih =>
    intro g l hf hg
    cases l with
    | nil => rw [quoted_nil, quoted_nil]
    | cons c l =>
      obtain ⟨g, rfl⟩ : ∃ g', g = g' + 1 := ⟨g - 1, by simp at hg; omega⟩
      simp only [List.length_cons] at hf hg
      by_cases h1 : c.toNat = 34
      · rw [quoted_end _ _ _ h1, quoted_end _ _ _ h1]
      · by_cases h2 : c.toNat = 124
        · rw [quoted_pairs _ _ _ h2, quoted_pairs _ _ _ h2]
          by_cases hz : (Lx.pairsP (c :: l)).2 = 0
          · rw [if_pos hz, if_pos hz]
          · rw [if_neg hz, if_neg hz, ih g _ (by rw [List.length_drop, List.length_cons]; omega) (by rw [List.length_drop, List.length_cons]; omega)]
        · by_cases h3 : c.toNat = 92
          · rw [quoted_escape _ _ _ h3, quoted_escape _ _ _ h3]
            by_cases hb : Lx.begins Lx.escaped l = true
            · rw [if_pos hb, if_pos hb, ih g _ (by rw [List.length_drop]; omega) (by rw [List.length_drop]; omega)]
            · rw [if_neg hb, if_neg hb]
          · by_cases h4 : 32 ≤ c.toNat ∧ c.toNat ≤ 126
            · rw [quoted_plain _ _ _ h1 h2 h3 h4, quoted_plain _ _ _ h1 h2 h3 h4, ih g l (by omega) (by omega)]
            · rw [quoted_bad _ _ _ h1 h2 h3 h4, quoted_bad _ _ _ h1 h2 h3 h4]
def qL (l : List UInt8) : Option (List UInt8 × Nat) := Lx.quoted l.length l
/-- a piece of a text that says one byte -/
def Says (p : List UInt8) (c : UInt8) : Prop := ∀ R, qL (p ++ R) = (qL R).map (fun q => (c :: q.1, q.2 + p.length))
theorem says_plain (c : UInt8) (h : 32 ≤ c.toNat ∧ c.toNat ≤ 126) (h1 : c.toNat ≠ 34) (h2 : c.toNat ≠ 124) (h3 : c.toNat ≠ 92) : Says [c] c := fun R => quoted_plain R.length c R h1 h2 h3 h
theorem says_escape (c : UInt8) (h : Lx.bt Lx.escaped c = true) : Says [92, c] c := fun R => by
  show Lx.quoted (R.length + 1 + 1) (92 :: c :: R) = _
  rw [quoted_escape (R.length + 1) 92 (c :: R) rfl, if_pos (show Lx.begins Lx.escaped (c :: R) = true from h)]
  show (Lx.quoted (R.length + 1) R).map _ = _
  rw [quoted_fuel (R.length + 1) R.length R (by omega) (Nat.le_refl _)]
  rfl
theorem says_pair (X Y : UInt8) (hX : 0 ≤ Lx.hexv (X.toNat : Int)) (hY : 0 ≤ Lx.hexv (Y.toNat : Int)) : Says [124, 32, X, Y, 32, 124] (Lx.two X Y) := fun R => by
  have hp : Lx.pairsP (124 :: 32 :: X :: Y :: 32 :: 124 :: R) = ([Lx.two X Y], 6) := by
    rw [pairsP_R, prs_blank 32 _ rfl, prs_two X Y _ hX hY, prs_blank 32 _ rfl, prs_bar 124 _ rfl]
    rfl
  show Lx.quoted (R.length + 1 + 1 + 1 + 1 + 1 + 1) (124 :: 32 :: X :: Y :: 32 :: 124 :: R) = _
  rw [quoted_pairs _ 124 _ rfl, hp, if_neg (by show ¬ (6 = 0); decide)]
  show (Lx.quoted (R.length + 1 + 1 + 1 + 1 + 1) R).map _ = _
  rw [quoted_fuel _ R.length R (by omega) (Nat.le_refl _)]
  rfl
def digs (odd : Bool) : List UInt8 := if odd then [48, 49, 50, 51, 52, 53, 54, 55, 56, 57, 97, 98, 99, 100, 101, 102] else [48, 49, 50, 51, 52, 53, 54, 55, 56, 57, 65, 66, 67, 68, 69, 70]
theorem digs_ok (odd : Bool) (c : UInt8) : 0 ≤ Lx.hexv (((digs odd).getD (c.toNat / 16) 0).toNat : Int) ∧ 0 ≤ Lx.hexv (((digs odd).getD (c.toNat % 16) 0).toNat : Int) ∧ Lx.two ((digs odd).getD (c.toNat / 16) 0) ((digs odd).getD (c.toNat % 16) 0) = c := by
  have hc := c.toNat_lt
  have h1 : ∀ (o : Bool) (n : Fin 16), Lx.hexv (((digs o).getD n.val 0).toNat : Int) = (n.val : Int) := by decide
  have a := h1 odd ⟨c.toNat / 16, by omega⟩
  have b := h1 odd ⟨c.toNat % 16, by omega⟩
  refine ⟨by rw [a]; omega, by rw [b]; omega, ?_⟩
  have e := two_val ((digs odd).getD (c.toNat / 16) 0) ((digs odd).getD (c.toNat % 16) 0) (by rw [a]; omega) (by rw [b]; omega)
  rw [a, b] at e
  apply UInt8.toNat.inj
  simp only [] at e
  omega
/-- how byte c is written, by a number -/
def piece (k : Nat) (c : UInt8) : List UInt8 :=
  if 2 ≤ k ∧ (32 ≤ c.toNat ∧ c.toNat ≤ 126 ∧ c.toNat ≠ 34 ∧ c.toNat ≠ 124 ∧ c.toNat ≠ 92) then [c]
  else if 2 ≤ k ∧ (c.toNat = 34 ∨ c.toNat = 124 ∨ c.toNat = 92) then [92, c]
  else [124, 32, (digs (decide (k % 2 = 1))).getD (c.toNat / 16) 0, (digs (decide (k % 2 = 1))).getD (c.toNat % 16) 0, 32, 124]
theorem piece_says (k : Nat) (c : UInt8) : Says (piece k c) c := by
  unfold piece
  split
  · rename_i h
    exact says_plain c ⟨h.2.1, h.2.2.1⟩ h.2.2.2.1 h.2.2.2.2.1 h.2.2.2.2.2
  · split
    · rename_i h
      exact says_escape c (by simp [Lx.bt, Lx.escaped]; omega)
    · obtain ⟨a, b, e⟩ := digs_ok (decide (k % 2 = 1)) c
      have := says_pair _ _ a b
      rwa [e] at this
theorem piece_len (k : Nat) (c : UInt8) : (piece k c).length ≤ 6 := by
  unfold piece
  split
  · simp
  · split <;> simp
/-- the first j bytes, written -/
def pcs (ks : Nat → Nat) (bs : List UInt8) : Nat → List UInt8
  | 0 => []
  | j + 1 => pcs ks bs j ++ piece (ks j) (bs.getD j 0)
theorem pcs_len (ks : Nat → Nat) (bs : List UInt8) (j : Nat) : (pcs ks bs j).length ≤ 6 * j := by
  induction j with
  | zero => simp [pcs]
  | succ j ih =>
    rw [pcs, List.length_append]
    have := piece_len (ks j) (bs.getD j 0)
    omega
theorem pcs_says (ks : Nat → Nat) (bs : List UInt8) : ∀ (j : Nat), j ≤ bs.length → ∀ R, qL (pcs ks bs j ++ R) = (qL R).map (fun q => (bs.take j ++ q.1, q.2 + (pcs ks bs j).length)) := by
  intro j
  induction j with
  | zero =>
    intro _ R
    show qL R = _
    cases qL R with
    | none => rfl
    | some q => simp [pcs]
  | succ j ih =>
    intro hj R
    rw [pcs, List.append_assoc, ih (by omega), piece_says]
    cases qL R with
    | none => rfl
    | some q =>
      simp only [Option.map_some, Option.some.injEq, Prod.mk.injEq]
      refine ⟨?_, by rw [List.length_append]; omega⟩
      have : bs.take (j + 1) = bs.take j ++ [bs.getD j 0] := by
        rw [List.take_succ_eq_append_getElem (by omega)]
        simp [List.getD, show j < bs.length from by omega]
      rw [this, List.append_assoc]
      rfl
theorem bytes_yes (ks : Nat → Nat) (bs R : List UInt8) : Lx.bytesP (34 :: (pcs ks bs bs.length ++ 34 :: R)) = (bs, (pcs ks bs bs.length).length + 2) := by
  rw [bytesP_R]
  show bytesR (qL _) = _
  rw [pcs_says ks bs bs.length (Nat.le_refl _), show qL (34 :: R) = some ([], 1) from quoted_end _ _ _ rfl, List.take_length]
  simp [bytesR]
  omega
theorem bytes_no (ks : Nat → Nat) (bs : List UInt8) : Lx.bytesP (34 :: pcs ks bs bs.length) = ([], 0) := by
  rw [bytesP_R]
  show bytesR (qL _) = _
  have h := pcs_says ks bs bs.length (Nat.le_refl _) []
  rw [List.append_nil] at h
  rw [h]
  rfl
theorem yes_all (ks : Nat → Nat) (bs : List UInt8) : lexL (120 :: 34 :: (pcs ks bs bs.length ++ [34, 59])) 1 = .ok [⟨1, [120], 0, 1⟩, ⟨3, bs, 0, 1⟩, ⟨4, [59], 0, 1⟩] := by
  have hw : Lx.one (120 :: 34 :: (pcs ks bs bs.length ++ [34, 59])) = (⟨1, [120], 0, 0⟩, 1) := by
    rw [Lx.one_cons, if_pos (by decide)]
    have : Lx.wordP (120 :: 34 :: (pcs ks bs bs.length ++ [34, 59])) = ([120], 1) := by
      have e : Lx.front Lx.ofWord (120 :: 34 :: (pcs ks bs bs.length ++ [34, 59])) = [120] := by rw [Lx.front_cons, if_pos (by decide), Lx.front_cons, if_neg (by decide)]
      have hb : Lx.begins Lx.letter (120 :: 34 :: (pcs ks bs bs.length ++ [34, 59])) = true := (show Lx.bt Lx.letter 120 = true from by decide)
      unfold Lx.wordP
      rw [e, if_pos ⟨hb, by decide⟩]
      rfl
    rw [this]
  have hb : Lx.one (34 :: (pcs ks bs bs.length ++ [34, 59])) = (⟨3, bs, 0, 0⟩, (pcs ks bs bs.length).length + 2) := by
    rw [Lx.one_cons, if_neg (by decide), if_neg (by decide), if_neg (by decide), if_pos (show (34 : UInt8).toNat = 34 from rfl), bytes_yes]
  have hs : Lx.one [59] = (⟨4, [59], 0, 0⟩, 1) := by rfl
  rw [lexL_tok _ _ _ (by decide) (by decide) (by decide) (by rw [hw]; decide), hw]
  show Lx.more _ (lexL (34 :: (pcs ks bs bs.length ++ [34, 59])) 1) = _
  rw [lexL_tok _ _ _ (by decide) (by decide) (by decide) (by rw [hb]; simp), hb]
  have hd : (34 :: (pcs ks bs bs.length ++ [34, 59])).drop ((pcs ks bs bs.length).length + 2) = [59] := by
    rw [List.drop_succ_cons, List.drop_append, List.drop_eq_nil_of_le (by omega)]
    simp
  show Lx.more _ (Lx.more _ (lexL ((34 :: (pcs ks bs bs.length ++ [34, 59])).drop ((pcs ks bs bs.length).length + 2)) 1)) = _
  rw [hd, lexL_tok 59 [] 1 (by decide) (by decide) (by decide) (by rw [hs]; decide), hs]
  show Lx.more _ (Lx.more _ (Lx.more _ (lexL [] 1))) = _
  rw [lexL_nil]
  rfl
theorem no_all (ks : Nat → Nat) (bs : List UInt8) : lexL (10 :: 34 :: pcs ks bs bs.length) 1 = .error 2 := by
  rw [lexL_line 10 _ _ rfl]
  refine lexL_bad 34 _ _ (by decide) (by decide) (by decide) ?_
  rw [Lx.one_cons, if_neg (by decide), if_neg (by decide), if_neg (by decide), if_pos (show (34 : UInt8).toNat = 34 from rfl), bytes_no]
theorem conv_one (u : World) (c : UInt8) : (convert 37 9 (.slice (some ⟨u.heap.size, 0, none⟩) 1 1)).run Tryd.prog (u.alloc (.cells #[.int .u8 (c.toNat : Int)] 5)) = .ok (.string ⟨#[c]⟩) (u.alloc (.cells #[.int .u8 (c.toNat : Int)] 5)) := by
  have h := run_convert_bytes_back (P := Tryd.prog) (u.alloc (.cells #[.int .u8 (c.toNat : Int)] 5)) 37 9 5 ⟨u.heap.size, 0, none⟩ 1 [c] Tryd.underlying37 Tryd.underlying5 Tryd.underlying9 (fun j hj => by
    have : j = 0 := by simp at hj; omega
    subst this
    simp [Addr.add])
  exact h
/-- the ways that may come: what is told of byte j -/
def wayOf (len1 : Nat) (z1 : List Int) (j : Nat) : Nat := if j < len1 then (z1.getD j 0 % 4).toNat else 0
theorem wayOf_lt (len1 : Nat) (z1 : List Int) (j : Nat) : wayOf len1 z1 j < 4 := by
  unfold wayOf
  split <;> omega
def D0 : ByteArray := ⟨#[48, 49, 50, 51, 52, 53, 54, 55, 56, 57, 65, 66, 67, 68, 69, 70]⟩
def D1 : ByteArray := ⟨#[48, 49, 50, 51, 52, 53, 54, 55, 56, 57, 97, 98, 99, 100, 101, 102]⟩
theorem digit_cut (odd : Bool) (n : Nat) (hn : n < 16) : (if odd then D1 else D0).extract n (n + 1) = ofL [(digs odd).getD n 0] := by
  have h : ∀ (o : Bool) (n : Fin 16), ((if o then D1 else D0).extract n.val (n.val + 1)).data.toList = [(digs o).getD n.val 0] := by decide
  have := h odd ⟨n, hn⟩
  rw [ofL_of ((if odd then D1 else D0).extract n (n + 1)), this]
theorem hex_nums (c : UInt8) : ∃ n m : Nat, c.toNat / 16 = n ∧ c.toNat % 16 = m ∧ n < 16 ∧ m < 16 ∧ ((c.toNat : Int)).tdiv 16 = (n : Int) ∧ ((c.toNat : Int)).tmod 16 = (m : Int) := by
  have hc := c.toNat_lt
  refine ⟨_, _, rfl, rfl, by omega, by omega, ?_, ?_⟩
  · rw [Int.tdiv_eq_ediv_of_nonneg (by omega)]; omega
  · rw [Int.tmod_eq_emod_of_nonneg (by omega)]; omega
theorem conv_in {u : World} {a0 : Option Addr} {cap0 : Nat} {bs : List UInt8} (h : ∀ j, (hj : j < bs.length) → ∃ x : Addr, a0 = some x ∧ u.cell? (x.add j) = some (bv bs[j])) : (convert 37 9 (.slice a0 bs.length cap0)).run Tryd.prog u = .ok (.string ⟨bs.toArray⟩) u := by
  cases a0 with
  | none =>
    have hb : bs = [] := by
      cases bs with
      | nil => rfl
      | cons c l => obtain ⟨x, hx, _⟩ := h 0 (by simp); cases hx
    subst hb
    show (convert 37 9 (.slice none 0 cap0)).run Tryd.prog u = _
    rw [run_convert_bytes_string u 37 9 5 none 0 cap0 Tryd.underlying37 Tryd.underlying5 Tryd.underlying9]
    rfl
  | some x =>
    exact run_convert_bytes_back (P := Tryd.prog) u 37 9 5 x cap0 bs Tryd.underlying37 Tryd.underlying5 Tryd.underlying9 (fun j hj => by
      obtain ⟨y, hy, hc⟩ := h j hj
      cases hy
      exact hc)
theorem fin_plain (T : ByteArray) (k : Nat) (c : UInt8) (h : 2 ≤ k ∧ (32 ≤ c.toNat ∧ c.toNat ≤ 126 ∧ c.toNat ≠ 34 ∧ c.toNat ≠ 124 ∧ c.toNat ≠ 92)) : T ++ ⟨#[c]⟩ = T ++ ofL (piece k c) := by
  unfold piece
  rw [if_pos h]
  rfl
theorem fin_escape (T : ByteArray) (k : Nat) (c : UInt8) (hk : 2 ≤ k) (h : c.toNat = 34 ∨ c.toNat = 124 ∨ c.toNat = 92) : T ++ ⟨#[92]⟩ ++ ⟨#[c]⟩ = T ++ ofL (piece k c) := by
  unfold piece
  rw [if_neg (by omega), if_pos ⟨hk, h⟩]
  apply ByteArray.ext
  apply Array.ext'
  simp [ofL]
theorem fin_pair (T : ByteArray) (k : Nat) (c : UInt8) (n m : Nat) (hn : c.toNat / 16 = n) (hm : c.toNat % 16 = m) (h : k < 2 ∨ c.toNat < 32 ∨ 126 < c.toNat) : T ++ ⟨#[124, 32]⟩ ++ ofL [(digs (decide (k % 2 = 1))).getD n 0] ++ ofL [(digs (decide (k % 2 = 1))).getD m 0] ++ ⟨#[32, 124]⟩ = T ++ ofL (piece k c) := by
  unfold piece
  rw [if_neg (by omega), if_neg (by omega), hn, hm]
  apply ByteArray.ext
  apply Array.ext'
  simp [ofL]
set_option maxHeartbeats 4000000 in
theorem walk (a0 : Option Addr) (len0 cap0 : Nat) (z0 : List Int) (a1 : Option Addr) (len1 cap1 : Nat) (z1 : List Int) (w : World) (r0 : IsRow .u8 w a0 len0 cap0 z0) (r1 : IsRow .i64 w a1 len1 cap1 z1) :
    Calls Tryd.prog 5 #[.slice a0 len0 cap0, .slice a1 len1 cap1] w fun e w' => e = .returned (.bool true) ∧ Below w.heap.size w w' := by
  obtain ⟨hm0, bs, hbs, hrow0⟩ := r0.bytes
  obtain ⟨hm1, hrow1⟩ := r1.at
  have HR0 : Hid (∀ j, (hj : j < bs.length) → ∃ x : Addr, a0 = some x ∧ w.cell? (x.add j) = some (bv bs[j])) := hrow0
  have HR1 : Hid (∀ j, j < len1 → ∃ x : Addr, a1 = some x ∧ w.cell? (x.add j) = some (.int .i64 (z1.getD j 0))) := hrow1
  clear hrow0 hrow1 r0 r1 z0
  have cA := fun u => awake_any u
  subst hbs
  by_cases h60 : 60 < bs.length
  · have h60' : 60 < (bs.length : Int) := by omega
    go_enter Tryd.func5, Tryd.ntmps5
    go_wp2_with (go_at_call 10; go_must (refine (cA _).mono ?_; rintro e w3 ⟨rfl, hb3⟩))
    go_ret
    exact ⟨rfl, hb3⟩
  · have h60' : ¬ (60 < (bs.length : Int)) := by omega
    have h60i : (bs.length : Int) ≤ 60 := by omega
    go_enter Tryd.func5, Tryd.ntmps5
    go_wp2
    go_loopg [5, 6] bs.length (fun gk sv iv wx => Below w.heap.size w wx ∧ ∃ j : Nat, sv = .string (ofL (34 :: pcs (wayOf len1 z1) bs j)) ∧ iv = .int .i64 (j : Int) ∧ bs.length = j + gk)
    case atStart => exact ⟨Below.refl _ _, 0, rfl, rfl, by omega⟩
    case round =>
      obtain ⟨hbw, j, rfl, rfl, hgk⟩ := hrel
      have hTl := pcs_len (wayOf len1 z1) bs j
      by_cases hlt : j < bs.length
      · obtain ⟨g', rfl⟩ : ∃ g', gk = g' + 1 := ⟨gk - 1, by omega⟩
        obtain ⟨x, rfl, hx⟩ := HR0.out j hlt
        have hcx : wr.cell? (x.add j) = some (bv bs[j]) := (hbw.cell (cell_lt hx)).trans hx
        obtain ⟨c, hc⟩ : ∃ c, bs[j] = c := ⟨_, rfl⟩
        rw [hc] at hcx
        have hpc : pcs (wayOf len1 z1) bs (j + 1) = pcs (wayOf len1 z1) bs j ++ piece (wayOf len1 z1 j) c := by
          rw [pcs, ← hc]
          simp [List.getD, hlt]
        obtain ⟨T, hT⟩ : ∃ T, ofL (34 :: pcs (wayOf len1 z1) bs j) = T := ⟨_, rfl⟩
        have hTz : (T.size : Int) ≤ 400 := by rw [← hT, ofL_size, List.length_cons]; omega
        have hnew : ofL (34 :: pcs (wayOf len1 z1) bs (j + 1)) = T ++ ofL (piece (wayOf len1 z1 j) c) := by
          rw [hpc, ← hT, ofL_app, ofL_data]
          rfl
        have HNEW : Hid (ofL (34 :: pcs (wayOf len1 z1) bs (j + 1)) = T ++ ofL (piece (wayOf len1 z1 j) c)) := hnew
        have hway : (¬ j < len1 ∧ wayOf len1 z1 j = 0) ∨ (∃ q : Int, j < len1 ∧ z1.getD j 0 = q ∧ q % 4 = (wayOf len1 z1 j : Int)) := by
          by_cases h : j < len1
          · refine Or.inr ⟨_, h, rfl, ?_⟩
            unfold wayOf
            rw [if_pos h]
            omega
          · exact Or.inl ⟨h, by unfold wayOf; rw [if_neg h]⟩
        have hk4 := wayOf_lt len1 z1 j
        obtain ⟨k, hk⟩ : ∃ k, wayOf len1 z1 j = k := ⟨_, rfl⟩
        rw [hk] at HNEW hway hk4
        have HGK : Hid (bs.length = j + (g' + 1)) := hgk
        have HBW : Hid (Below w.heap.size w wr) := hbw
        have hjl : (j : Int) < (bs.length : Int) := by omega
        have hjb : (j : Int) ≤ 60 := by omega
        have hcb := c.toNat_lt
        have hcbi : (c.toNat : Int) ≤ 255 := by omega
        have hcv := conv_one wr c
        obtain ⟨n, m, hn, hm, hn16, hm16, hdn, hdm⟩ := hex_nums c
        have cls : (32 ≤ (c.toNat : Int) ∧ (c.toNat : Int) ≤ 126 ∧ ¬ ((c.toNat : Int) = 34) ∧ ¬ ((c.toNat : Int) = 124) ∧ ¬ ((c.toNat : Int) = 92)) ∨ c.toNat = 34 ∨ c.toNat = 124 ∨ c.toNat = 92 ∨ (c.toNat : Int) < 32 ∨ (¬ ((c.toNat : Int) < 32) ∧ 126 < (c.toNat : Int)) := by omega
        rcases hway with ⟨hl1, rfl⟩ | ⟨q, hl1, hz, hq⟩
        · have hl1i : ¬ ((j : Int) < (len1 : Int)) := by omega
          clear cls
          have hf := fin_pair T 0 c n m hn hm (by omega)
          rw [← hf] at HNEW
          have hX1 : (⟨#[48, 49, 50, 51, 52, 53, 54, 55, 56, 57, 65, 66, 67, 68, 69, 70]⟩ : ByteArray).extract n (n + 1) = ofL [(digs (decide (0 % 2 = 1))).getD n 0] := digit_cut false n hn16
          have hX2 : (⟨#[48, 49, 50, 51, 52, 53, 54, 55, 56, 57, 65, 66, 67, 68, 69, 70]⟩ : ByteArray).extract m (m + 1) = ofL [(digs (decide (0 % 2 = 1))).getD m 0] := digit_cut false m hm16
          obtain ⟨n1, hn1⟩ : ∃ n1, n + 1 = n1 := ⟨_, rfl⟩
          obtain ⟨m1, hm1⟩ : ∃ m1, m + 1 = m1 := ⟨_, rfl⟩
          rw [hn1] at hX1
          rw [hm1] at hX2
          obtain ⟨Y1, hY1⟩ : ∃ Y, ofL [(digs (decide (0 % 2 = 1))).getD n 0] = Y := ⟨_, rfl⟩
          obtain ⟨Y2, hY2⟩ : ∃ Y, ofL [(digs (decide (0 % 2 = 1))).getD m 0] = Y := ⟨_, rfl⟩
          rw [hY1] at hX1 HNEW
          rw [hY2] at hX2 HNEW
          have hz1 : (Y1.size : Int) ≤ 1 := by rw [← hY1, ofL_size]; simp
          have hz2 : (Y2.size : Int) ≤ 1 := by rw [← hY2, ofL_size]; simp
          obtain ⟨N, hN⟩ : ∃ N, T ++ ⟨#[124, 32]⟩ ++ Y1 ++ Y2 ++ ⟨#[32, 124]⟩ = N := ⟨_, rfl⟩
          rw [hN] at HNEW
          have HN2 : Hid (N = ofL (34 :: pcs (wayOf len1 z1) bs (j + 1))) := HNEW.out.symm
          have hn1i : (n : Int) + 1 = (n1 : Int) := by omega
          have hm1i : (m : Int) + 1 = (m1 : Int) := by omega
          have hnn : (n : Int) ≤ (n1 : Int) := by omega
          have hmm : (m : Int) ≤ (m1 : Int) := by omega
          have hn116 : (n1 : Int) ≤ 16 := by omega
          have hm116 : (m1 : Int) ≤ 16 := by omega
          clear hf hn hm hn1 hm1 hY1 hY2 hc hx hgk hbw hpc hnew hk hTl HNEW hn16 hm16 hcv
          go_wp2
          go_quiet (fail)
          go_wp2
          go_roundg g'
          case measure => omega
          case rel => exact ⟨(bel_drewN HBW.out _), j + 1, by first | rw [HN2.out] | rfl, by go_num, by have := HGK.out; omega⟩
        · obtain ⟨y, rfl, hy⟩ := HR1.out j hl1
          have hcy : wr.cell? (y.add j) = some (.int .i64 q) := by rw [← hz]; exact (HBW.out.cell (cell_lt hy)).trans hy
          have hl1i : (j : Int) < (len1 : Int) := by omega
          clear hy hz
          have hkk : k = 0 ∨ k = 1 ∨ k = 2 ∨ k = 3 := by omega
          rcases hkk with rfl | rfl | rfl | rfl
          · clear cls
            have p1 : ∀ u, Calls Tryd.prog 11 #[.int .i64 q, .int .i64 4] u fun e w' => e = .returned (.int .i64 0) ∧ u = w' := fun u => by have h := place_any q 4 u (by omega) (by omega); rw [hq] at h; exact h
            have hf := fin_pair T 0 c n m hn hm (by omega)
            rw [← hf] at HNEW
            have hX1 : (⟨#[48, 49, 50, 51, 52, 53, 54, 55, 56, 57, 65, 66, 67, 68, 69, 70]⟩ : ByteArray).extract n (n + 1) = ofL [(digs (decide (0 % 2 = 1))).getD n 0] := digit_cut false n hn16
            have hX2 : (⟨#[48, 49, 50, 51, 52, 53, 54, 55, 56, 57, 65, 66, 67, 68, 69, 70]⟩ : ByteArray).extract m (m + 1) = ofL [(digs (decide (0 % 2 = 1))).getD m 0] := digit_cut false m hm16
            obtain ⟨n1, hn1⟩ : ∃ n1, n + 1 = n1 := ⟨_, rfl⟩
            obtain ⟨m1, hm1⟩ : ∃ m1, m + 1 = m1 := ⟨_, rfl⟩
            rw [hn1] at hX1
            rw [hm1] at hX2
            obtain ⟨Y1, hY1⟩ : ∃ Y, ofL [(digs (decide (0 % 2 = 1))).getD n 0] = Y := ⟨_, rfl⟩
            obtain ⟨Y2, hY2⟩ : ∃ Y, ofL [(digs (decide (0 % 2 = 1))).getD m 0] = Y := ⟨_, rfl⟩
            rw [hY1] at hX1 HNEW
            rw [hY2] at hX2 HNEW
            have hz1 : (Y1.size : Int) ≤ 1 := by rw [← hY1, ofL_size]; simp
            have hz2 : (Y2.size : Int) ≤ 1 := by rw [← hY2, ofL_size]; simp
            obtain ⟨N, hN⟩ : ∃ N, T ++ ⟨#[124, 32]⟩ ++ Y1 ++ Y2 ++ ⟨#[32, 124]⟩ = N := ⟨_, rfl⟩
            rw [hN] at HNEW
            have HN2 : Hid (N = ofL (34 :: pcs (wayOf len1 z1) bs (j + 1))) := HNEW.out.symm
            have hn1i : (n : Int) + 1 = (n1 : Int) := by omega
            have hm1i : (m : Int) + 1 = (m1 : Int) := by omega
            have hnn : (n : Int) ≤ (n1 : Int) := by omega
            have hmm : (m : Int) ≤ (m1 : Int) := by omega
            have hn116 : (n1 : Int) ≤ 16 := by omega
            have hm116 : (m1 : Int) ≤ 16 := by omega
            clear hf hn hm hn1 hm1 hY1 hY2 hc hx hgk hbw hpc hnew hk hTl HNEW hn16 hm16 hcv
            go_wp2_with (go_at_call 11; go_must (refine (p1 _).mono ?_; rintro e W' ⟨rfl, rfl⟩))
            go_quiet (fail)
            go_wp2
            go_roundg g'
            case measure => omega
            case rel => exact ⟨(bel_drewN HBW.out _), j + 1, by first | rw [HN2.out] | rfl, by go_num, by have := HGK.out; omega⟩
          · clear cls
            have p1 : ∀ u, Calls Tryd.prog 11 #[.int .i64 q, .int .i64 4] u fun e w' => e = .returned (.int .i64 1) ∧ u = w' := fun u => by have h := place_any q 4 u (by omega) (by omega); rw [hq] at h; exact h
            have hf := fin_pair T 1 c n m hn hm (by omega)
            rw [← hf] at HNEW
            have hX1 : (⟨#[48, 49, 50, 51, 52, 53, 54, 55, 56, 57, 97, 98, 99, 100, 101, 102]⟩ : ByteArray).extract n (n + 1) = ofL [(digs (decide (1 % 2 = 1))).getD n 0] := digit_cut true n hn16
            have hX2 : (⟨#[48, 49, 50, 51, 52, 53, 54, 55, 56, 57, 97, 98, 99, 100, 101, 102]⟩ : ByteArray).extract m (m + 1) = ofL [(digs (decide (1 % 2 = 1))).getD m 0] := digit_cut true m hm16
            obtain ⟨n1, hn1⟩ : ∃ n1, n + 1 = n1 := ⟨_, rfl⟩
            obtain ⟨m1, hm1⟩ : ∃ m1, m + 1 = m1 := ⟨_, rfl⟩
            rw [hn1] at hX1
            rw [hm1] at hX2
            obtain ⟨Y1, hY1⟩ : ∃ Y, ofL [(digs (decide (1 % 2 = 1))).getD n 0] = Y := ⟨_, rfl⟩
            obtain ⟨Y2, hY2⟩ : ∃ Y, ofL [(digs (decide (1 % 2 = 1))).getD m 0] = Y := ⟨_, rfl⟩
            rw [hY1] at hX1 HNEW
            rw [hY2] at hX2 HNEW
            have hz1 : (Y1.size : Int) ≤ 1 := by rw [← hY1, ofL_size]; simp
            have hz2 : (Y2.size : Int) ≤ 1 := by rw [← hY2, ofL_size]; simp
            obtain ⟨N, hN⟩ : ∃ N, T ++ ⟨#[124, 32]⟩ ++ Y1 ++ Y2 ++ ⟨#[32, 124]⟩ = N := ⟨_, rfl⟩
            rw [hN] at HNEW
            have HN2 : Hid (N = ofL (34 :: pcs (wayOf len1 z1) bs (j + 1))) := HNEW.out.symm
            have hn1i : (n : Int) + 1 = (n1 : Int) := by omega
            have hm1i : (m : Int) + 1 = (m1 : Int) := by omega
            have hnn : (n : Int) ≤ (n1 : Int) := by omega
            have hmm : (m : Int) ≤ (m1 : Int) := by omega
            have hn116 : (n1 : Int) ≤ 16 := by omega
            have hm116 : (m1 : Int) ≤ 16 := by omega
            clear hf hn hm hn1 hm1 hY1 hY2 hc hx hgk hbw hpc hnew hk hTl HNEW hn16 hm16 hcv
            go_wp2_with (go_at_call 11; go_must (refine (p1 _).mono ?_; rintro e W' ⟨rfl, rfl⟩))
            go_quiet (fail)
            go_wp2
            go_roundg g'
            case measure => omega
            case rel => exact ⟨(bel_drewN HBW.out _), j + 1, by first | rw [HN2.out] | rfl, by go_num, by have := HGK.out; omega⟩
          · rcases cls with ⟨hp1, hp2, hp3, hp4, hp5⟩ | h34 | h124 | h92 | hp1 | ⟨hp1, hp2⟩
            · have n34 : ((c.toNat : Int) != 34) = true := by simpa using hp3
              have e34 : ((c.toNat : Int) == 34) = false := by simpa using hp3
              have n124 : ((c.toNat : Int) != 124) = true := by simpa using hp4
              have e124 : ((c.toNat : Int) == 124) = false := by simpa using hp4
              have n92 : ((c.toNat : Int) != 92) = true := by simpa using hp5
              have e92 : ((c.toNat : Int) == 92) = false := by simpa using hp5
              have p1 : ∀ u, Calls Tryd.prog 11 #[.int .i64 q, .int .i64 4] u fun e w' => e = .returned (.int .i64 2) ∧ u = w' := fun u => by have h := place_any q 4 u (by omega) (by omega); rw [hq] at h; exact h
              have hf := fin_plain T 2 c ⟨by omega, by omega⟩
              rw [← hf] at HNEW
              obtain ⟨N, hN⟩ : ∃ N, T ++ ⟨#[c]⟩ = N := ⟨_, rfl⟩
              rw [hN] at HNEW
              have HN2 : Hid (N = ofL (34 :: pcs (wayOf len1 z1) bs (j + 1))) := HNEW.out.symm
              clear hf hn hm hdn hdm hc hx hgk hbw hpc hnew hk hTl HNEW
              go_wp2_with (go_at_call 11; go_must (refine (p1 _).mono ?_; rintro e W' ⟨rfl, rfl⟩))
              go_roundg g'
              case measure => omega
              case rel => exact ⟨(HBW.out.alloc HBW.out.size _), j + 1, by first | rw [HN2.out] | rfl, by go_num, by have := HGK.out; omega⟩
            · have p1 : ∀ u, Calls Tryd.prog 11 #[.int .i64 q, .int .i64 4] u fun e w' => e = .returned (.int .i64 2) ∧ u = w' := fun u => by have h := place_any q 4 u (by omega) (by omega); rw [hq] at h; exact h
              obtain rfl : c = 34 := UInt8.toNat.inj (by rw [h34]; rfl)
              have hf := fin_escape T 2 34 (by omega) (by decide)
              rw [← hf] at HNEW
              obtain ⟨N, hN⟩ : ∃ N, T ++ ⟨#[92]⟩ ++ ⟨#[34]⟩ = N := ⟨_, rfl⟩
              rw [hN] at HNEW
              have HN2 : Hid (N = ofL (34 :: pcs (wayOf len1 z1) bs (j + 1))) := HNEW.out.symm
              have hcv' : (convert 37 9 (.slice (some ⟨wr.heap.size, 0, none⟩) 1 1)).run Tryd.prog (wr.alloc (.cells #[.int .u8 34] 5)) = .ok (.string ⟨#[34]⟩) (wr.alloc (.cells #[.int .u8 34] 5)) := conv_one wr 34
              have hcx' : wr.cell? (x.add j) = some (.int .u8 34) := hcx
              clear hf hn hm hdn hdm hc hx hgk hbw hpc hnew hk hTl HNEW hcx hcv hcb hcbi
              go_wp2_with (go_at_call 11; go_must (refine (p1 _).mono ?_; rintro e W' ⟨rfl, rfl⟩))
              go_roundg g'
              case measure => omega
              case rel => exact ⟨(HBW.out.alloc HBW.out.size _), j + 1, by first | rw [HN2.out] | rfl, by go_num, by have := HGK.out; omega⟩
            · have p1 : ∀ u, Calls Tryd.prog 11 #[.int .i64 q, .int .i64 4] u fun e w' => e = .returned (.int .i64 2) ∧ u = w' := fun u => by have h := place_any q 4 u (by omega) (by omega); rw [hq] at h; exact h
              obtain rfl : c = 124 := UInt8.toNat.inj (by rw [h124]; rfl)
              have hf := fin_escape T 2 124 (by omega) (by decide)
              rw [← hf] at HNEW
              obtain ⟨N, hN⟩ : ∃ N, T ++ ⟨#[92]⟩ ++ ⟨#[124]⟩ = N := ⟨_, rfl⟩
              rw [hN] at HNEW
              have HN2 : Hid (N = ofL (34 :: pcs (wayOf len1 z1) bs (j + 1))) := HNEW.out.symm
              have hcv' : (convert 37 9 (.slice (some ⟨wr.heap.size, 0, none⟩) 1 1)).run Tryd.prog (wr.alloc (.cells #[.int .u8 124] 5)) = .ok (.string ⟨#[124]⟩) (wr.alloc (.cells #[.int .u8 124] 5)) := conv_one wr 124
              have hcx' : wr.cell? (x.add j) = some (.int .u8 124) := hcx
              clear hf hn hm hdn hdm hc hx hgk hbw hpc hnew hk hTl HNEW hcx hcv hcb hcbi
              go_wp2_with (go_at_call 11; go_must (refine (p1 _).mono ?_; rintro e W' ⟨rfl, rfl⟩))
              go_roundg g'
              case measure => omega
              case rel => exact ⟨(HBW.out.alloc HBW.out.size _), j + 1, by first | rw [HN2.out] | rfl, by go_num, by have := HGK.out; omega⟩
            · have p1 : ∀ u, Calls Tryd.prog 11 #[.int .i64 q, .int .i64 4] u fun e w' => e = .returned (.int .i64 2) ∧ u = w' := fun u => by have h := place_any q 4 u (by omega) (by omega); rw [hq] at h; exact h
              obtain rfl : c = 92 := UInt8.toNat.inj (by rw [h92]; rfl)
              have hf := fin_escape T 2 92 (by omega) (by decide)
              rw [← hf] at HNEW
              obtain ⟨N, hN⟩ : ∃ N, T ++ ⟨#[92]⟩ ++ ⟨#[92]⟩ = N := ⟨_, rfl⟩
              rw [hN] at HNEW
              have HN2 : Hid (N = ofL (34 :: pcs (wayOf len1 z1) bs (j + 1))) := HNEW.out.symm
              have hcv' : (convert 37 9 (.slice (some ⟨wr.heap.size, 0, none⟩) 1 1)).run Tryd.prog (wr.alloc (.cells #[.int .u8 92] 5)) = .ok (.string ⟨#[92]⟩) (wr.alloc (.cells #[.int .u8 92] 5)) := conv_one wr 92
              have hcx' : wr.cell? (x.add j) = some (.int .u8 92) := hcx
              clear hf hn hm hdn hdm hc hx hgk hbw hpc hnew hk hTl HNEW hcx hcv hcb hcbi
              go_wp2_with (go_at_call 11; go_must (refine (p1 _).mono ?_; rintro e W' ⟨rfl, rfl⟩))
              go_roundg g'
              case measure => omega
              case rel => exact ⟨(HBW.out.alloc HBW.out.size _), j + 1, by first | rw [HN2.out] | rfl, by go_num, by have := HGK.out; omega⟩
            · have hp3 : ¬ ((c.toNat : Int) = 34) := by omega
              have n34 : ((c.toNat : Int) != 34) = true := by simpa using hp3
              have e34 : ((c.toNat : Int) == 34) = false := by simpa using hp3
              have hp4 : ¬ ((c.toNat : Int) = 124) := by omega
              have n124 : ((c.toNat : Int) != 124) = true := by simpa using hp4
              have e124 : ((c.toNat : Int) == 124) = false := by simpa using hp4
              have hp5 : ¬ ((c.toNat : Int) = 92) := by omega
              have n92 : ((c.toNat : Int) != 92) = true := by simpa using hp5
              have e92 : ((c.toNat : Int) == 92) = false := by simpa using hp5
              have p1 : ∀ u, Calls Tryd.prog 11 #[.int .i64 q, .int .i64 4] u fun e w' => e = .returned (.int .i64 2) ∧ u = w' := fun u => by have h := place_any q 4 u (by omega) (by omega); rw [hq] at h; exact h
              have hf := fin_pair T 2 c n m hn hm (by omega)
              rw [← hf] at HNEW
              have hX1 : (⟨#[48, 49, 50, 51, 52, 53, 54, 55, 56, 57, 65, 66, 67, 68, 69, 70]⟩ : ByteArray).extract n (n + 1) = ofL [(digs (decide (2 % 2 = 1))).getD n 0] := digit_cut false n hn16
              have hX2 : (⟨#[48, 49, 50, 51, 52, 53, 54, 55, 56, 57, 65, 66, 67, 68, 69, 70]⟩ : ByteArray).extract m (m + 1) = ofL [(digs (decide (2 % 2 = 1))).getD m 0] := digit_cut false m hm16
              obtain ⟨n1, hn1⟩ : ∃ n1, n + 1 = n1 := ⟨_, rfl⟩
              obtain ⟨m1, hm1⟩ : ∃ m1, m + 1 = m1 := ⟨_, rfl⟩
              rw [hn1] at hX1
              rw [hm1] at hX2
              obtain ⟨Y1, hY1⟩ : ∃ Y, ofL [(digs (decide (2 % 2 = 1))).getD n 0] = Y := ⟨_, rfl⟩
              obtain ⟨Y2, hY2⟩ : ∃ Y, ofL [(digs (decide (2 % 2 = 1))).getD m 0] = Y := ⟨_, rfl⟩
              rw [hY1] at hX1 HNEW
              rw [hY2] at hX2 HNEW
              have hz1 : (Y1.size : Int) ≤ 1 := by rw [← hY1, ofL_size]; simp
              have hz2 : (Y2.size : Int) ≤ 1 := by rw [← hY2, ofL_size]; simp
              obtain ⟨N, hN⟩ : ∃ N, T ++ ⟨#[124, 32]⟩ ++ Y1 ++ Y2 ++ ⟨#[32, 124]⟩ = N := ⟨_, rfl⟩
              rw [hN] at HNEW
              have HN2 : Hid (N = ofL (34 :: pcs (wayOf len1 z1) bs (j + 1))) := HNEW.out.symm
              have hn1i : (n : Int) + 1 = (n1 : Int) := by omega
              have hm1i : (m : Int) + 1 = (m1 : Int) := by omega
              have hnn : (n : Int) ≤ (n1 : Int) := by omega
              have hmm : (m : Int) ≤ (m1 : Int) := by omega
              have hn116 : (n1 : Int) ≤ 16 := by omega
              have hm116 : (m1 : Int) ≤ 16 := by omega
              clear hf hn hm hn1 hm1 hY1 hY2 hc hx hgk hbw hpc hnew hk hTl HNEW hn16 hm16 hcv
              go_wp2_with (go_at_call 11; go_must (refine (p1 _).mono ?_; rintro e W' ⟨rfl, rfl⟩))
              go_quiet (fail)
              go_wp2
              go_roundg g'
              case measure => omega
              case rel => exact ⟨(bel_drewN HBW.out _), j + 1, by first | rw [HN2.out] | rfl, by go_num, by have := HGK.out; omega⟩
            · have hp3 : ¬ ((c.toNat : Int) = 34) := by omega
              have n34 : ((c.toNat : Int) != 34) = true := by simpa using hp3
              have e34 : ((c.toNat : Int) == 34) = false := by simpa using hp3
              have hp4 : ¬ ((c.toNat : Int) = 124) := by omega
              have n124 : ((c.toNat : Int) != 124) = true := by simpa using hp4
              have e124 : ((c.toNat : Int) == 124) = false := by simpa using hp4
              have hp5 : ¬ ((c.toNat : Int) = 92) := by omega
              have n92 : ((c.toNat : Int) != 92) = true := by simpa using hp5
              have e92 : ((c.toNat : Int) == 92) = false := by simpa using hp5
              have p1 : ∀ u, Calls Tryd.prog 11 #[.int .i64 q, .int .i64 4] u fun e w' => e = .returned (.int .i64 2) ∧ u = w' := fun u => by have h := place_any q 4 u (by omega) (by omega); rw [hq] at h; exact h
              have hf := fin_pair T 2 c n m hn hm (by omega)
              rw [← hf] at HNEW
              have hX1 : (⟨#[48, 49, 50, 51, 52, 53, 54, 55, 56, 57, 65, 66, 67, 68, 69, 70]⟩ : ByteArray).extract n (n + 1) = ofL [(digs (decide (2 % 2 = 1))).getD n 0] := digit_cut false n hn16
              have hX2 : (⟨#[48, 49, 50, 51, 52, 53, 54, 55, 56, 57, 65, 66, 67, 68, 69, 70]⟩ : ByteArray).extract m (m + 1) = ofL [(digs (decide (2 % 2 = 1))).getD m 0] := digit_cut false m hm16
              obtain ⟨n1, hn1⟩ : ∃ n1, n + 1 = n1 := ⟨_, rfl⟩
              obtain ⟨m1, hm1⟩ : ∃ m1, m + 1 = m1 := ⟨_, rfl⟩
              rw [hn1] at hX1
              rw [hm1] at hX2
              obtain ⟨Y1, hY1⟩ : ∃ Y, ofL [(digs (decide (2 % 2 = 1))).getD n 0] = Y := ⟨_, rfl⟩
              obtain ⟨Y2, hY2⟩ : ∃ Y, ofL [(digs (decide (2 % 2 = 1))).getD m 0] = Y := ⟨_, rfl⟩
              rw [hY1] at hX1 HNEW
              rw [hY2] at hX2 HNEW
              have hz1 : (Y1.size : Int) ≤ 1 := by rw [← hY1, ofL_size]; simp
              have hz2 : (Y2.size : Int) ≤ 1 := by rw [← hY2, ofL_size]; simp
              obtain ⟨N, hN⟩ : ∃ N, T ++ ⟨#[124, 32]⟩ ++ Y1 ++ Y2 ++ ⟨#[32, 124]⟩ = N := ⟨_, rfl⟩
              rw [hN] at HNEW
              have HN2 : Hid (N = ofL (34 :: pcs (wayOf len1 z1) bs (j + 1))) := HNEW.out.symm
              have hn1i : (n : Int) + 1 = (n1 : Int) := by omega
              have hm1i : (m : Int) + 1 = (m1 : Int) := by omega
              have hnn : (n : Int) ≤ (n1 : Int) := by omega
              have hmm : (m : Int) ≤ (m1 : Int) := by omega
              have hn116 : (n1 : Int) ≤ 16 := by omega
              have hm116 : (m1 : Int) ≤ 16 := by omega
              clear hf hn hm hn1 hm1 hY1 hY2 hc hx hgk hbw hpc hnew hk hTl HNEW hn16 hm16 hcv
              go_wp2_with (go_at_call 11; go_must (refine (p1 _).mono ?_; rintro e W' ⟨rfl, rfl⟩))
              go_quiet (fail)
              go_wp2
              go_roundg g'
              case measure => omega
              case rel => exact ⟨(bel_drewN HBW.out _), j + 1, by first | rw [HN2.out] | rfl, by go_num, by have := HGK.out; omega⟩
          · rcases cls with ⟨hp1, hp2, hp3, hp4, hp5⟩ | h34 | h124 | h92 | hp1 | ⟨hp1, hp2⟩
            · have n34 : ((c.toNat : Int) != 34) = true := by simpa using hp3
              have e34 : ((c.toNat : Int) == 34) = false := by simpa using hp3
              have n124 : ((c.toNat : Int) != 124) = true := by simpa using hp4
              have e124 : ((c.toNat : Int) == 124) = false := by simpa using hp4
              have n92 : ((c.toNat : Int) != 92) = true := by simpa using hp5
              have e92 : ((c.toNat : Int) == 92) = false := by simpa using hp5
              have p1 : ∀ u, Calls Tryd.prog 11 #[.int .i64 q, .int .i64 4] u fun e w' => e = .returned (.int .i64 3) ∧ u = w' := fun u => by have h := place_any q 4 u (by omega) (by omega); rw [hq] at h; exact h
              have hf := fin_plain T 3 c ⟨by omega, by omega⟩
              rw [← hf] at HNEW
              obtain ⟨N, hN⟩ : ∃ N, T ++ ⟨#[c]⟩ = N := ⟨_, rfl⟩
              rw [hN] at HNEW
              have HN2 : Hid (N = ofL (34 :: pcs (wayOf len1 z1) bs (j + 1))) := HNEW.out.symm
              clear hf hn hm hdn hdm hc hx hgk hbw hpc hnew hk hTl HNEW
              go_wp2_with (go_at_call 11; go_must (refine (p1 _).mono ?_; rintro e W' ⟨rfl, rfl⟩))
              go_roundg g'
              case measure => omega
              case rel => exact ⟨(HBW.out.alloc HBW.out.size _), j + 1, by first | rw [HN2.out] | rfl, by go_num, by have := HGK.out; omega⟩
            · have p1 : ∀ u, Calls Tryd.prog 11 #[.int .i64 q, .int .i64 4] u fun e w' => e = .returned (.int .i64 3) ∧ u = w' := fun u => by have h := place_any q 4 u (by omega) (by omega); rw [hq] at h; exact h
              obtain rfl : c = 34 := UInt8.toNat.inj (by rw [h34]; rfl)
              have hf := fin_escape T 3 34 (by omega) (by decide)
              rw [← hf] at HNEW
              obtain ⟨N, hN⟩ : ∃ N, T ++ ⟨#[92]⟩ ++ ⟨#[34]⟩ = N := ⟨_, rfl⟩
              rw [hN] at HNEW
              have HN2 : Hid (N = ofL (34 :: pcs (wayOf len1 z1) bs (j + 1))) := HNEW.out.symm
              have hcv' : (convert 37 9 (.slice (some ⟨wr.heap.size, 0, none⟩) 1 1)).run Tryd.prog (wr.alloc (.cells #[.int .u8 34] 5)) = .ok (.string ⟨#[34]⟩) (wr.alloc (.cells #[.int .u8 34] 5)) := conv_one wr 34
              have hcx' : wr.cell? (x.add j) = some (.int .u8 34) := hcx
              clear hf hn hm hdn hdm hc hx hgk hbw hpc hnew hk hTl HNEW hcx hcv hcb hcbi
              go_wp2_with (go_at_call 11; go_must (refine (p1 _).mono ?_; rintro e W' ⟨rfl, rfl⟩))
              go_roundg g'
              case measure => omega
              case rel => exact ⟨(HBW.out.alloc HBW.out.size _), j + 1, by first | rw [HN2.out] | rfl, by go_num, by have := HGK.out; omega⟩
            · have p1 : ∀ u, Calls Tryd.prog 11 #[.int .i64 q, .int .i64 4] u fun e w' => e = .returned (.int .i64 3) ∧ u = w' := fun u => by have h := place_any q 4 u (by omega) (by omega); rw [hq] at h; exact h
              obtain rfl : c = 124 := UInt8.toNat.inj (by rw [h124]; rfl)
              have hf := fin_escape T 3 124 (by omega) (by decide)
              rw [← hf] at HNEW
              obtain ⟨N, hN⟩ : ∃ N, T ++ ⟨#[92]⟩ ++ ⟨#[124]⟩ = N := ⟨_, rfl⟩
              rw [hN] at HNEW
              have HN2 : Hid (N = ofL (34 :: pcs (wayOf len1 z1) bs (j + 1))) := HNEW.out.symm
              have hcv' : (convert 37 9 (.slice (some ⟨wr.heap.size, 0, none⟩) 1 1)).run Tryd.prog (wr.alloc (.cells #[.int .u8 124] 5)) = .ok (.string ⟨#[124]⟩) (wr.alloc (.cells #[.int .u8 124] 5)) := conv_one wr 124
              have hcx' : wr.cell? (x.add j) = some (.int .u8 124) := hcx
              clear hf hn hm hdn hdm hc hx hgk hbw hpc hnew hk hTl HNEW hcx hcv hcb hcbi
              go_wp2_with (go_at_call 11; go_must (refine (p1 _).mono ?_; rintro e W' ⟨rfl, rfl⟩))
              go_roundg g'
              case measure => omega
              case rel => exact ⟨(HBW.out.alloc HBW.out.size _), j + 1, by first | rw [HN2.out] | rfl, by go_num, by have := HGK.out; omega⟩
            · have p1 : ∀ u, Calls Tryd.prog 11 #[.int .i64 q, .int .i64 4] u fun e w' => e = .returned (.int .i64 3) ∧ u = w' := fun u => by have h := place_any q 4 u (by omega) (by omega); rw [hq] at h; exact h
              obtain rfl : c = 92 := UInt8.toNat.inj (by rw [h92]; rfl)
              have hf := fin_escape T 3 92 (by omega) (by decide)
              rw [← hf] at HNEW
              obtain ⟨N, hN⟩ : ∃ N, T ++ ⟨#[92]⟩ ++ ⟨#[92]⟩ = N := ⟨_, rfl⟩
              rw [hN] at HNEW
              have HN2 : Hid (N = ofL (34 :: pcs (wayOf len1 z1) bs (j + 1))) := HNEW.out.symm
              have hcv' : (convert 37 9 (.slice (some ⟨wr.heap.size, 0, none⟩) 1 1)).run Tryd.prog (wr.alloc (.cells #[.int .u8 92] 5)) = .ok (.string ⟨#[92]⟩) (wr.alloc (.cells #[.int .u8 92] 5)) := conv_one wr 92
              have hcx' : wr.cell? (x.add j) = some (.int .u8 92) := hcx
              clear hf hn hm hdn hdm hc hx hgk hbw hpc hnew hk hTl HNEW hcx hcv hcb hcbi
              go_wp2_with (go_at_call 11; go_must (refine (p1 _).mono ?_; rintro e W' ⟨rfl, rfl⟩))
              go_roundg g'
              case measure => omega
              case rel => exact ⟨(HBW.out.alloc HBW.out.size _), j + 1, by first | rw [HN2.out] | rfl, by go_num, by have := HGK.out; omega⟩
            · have hp3 : ¬ ((c.toNat : Int) = 34) := by omega
              have n34 : ((c.toNat : Int) != 34) = true := by simpa using hp3
              have e34 : ((c.toNat : Int) == 34) = false := by simpa using hp3
              have hp4 : ¬ ((c.toNat : Int) = 124) := by omega
              have n124 : ((c.toNat : Int) != 124) = true := by simpa using hp4
              have e124 : ((c.toNat : Int) == 124) = false := by simpa using hp4
              have hp5 : ¬ ((c.toNat : Int) = 92) := by omega
              have n92 : ((c.toNat : Int) != 92) = true := by simpa using hp5
              have e92 : ((c.toNat : Int) == 92) = false := by simpa using hp5
              have p1 : ∀ u, Calls Tryd.prog 11 #[.int .i64 q, .int .i64 4] u fun e w' => e = .returned (.int .i64 3) ∧ u = w' := fun u => by have h := place_any q 4 u (by omega) (by omega); rw [hq] at h; exact h
              have hf := fin_pair T 3 c n m hn hm (by omega)
              rw [← hf] at HNEW
              have hX1 : (⟨#[48, 49, 50, 51, 52, 53, 54, 55, 56, 57, 97, 98, 99, 100, 101, 102]⟩ : ByteArray).extract n (n + 1) = ofL [(digs (decide (3 % 2 = 1))).getD n 0] := digit_cut true n hn16
              have hX2 : (⟨#[48, 49, 50, 51, 52, 53, 54, 55, 56, 57, 97, 98, 99, 100, 101, 102]⟩ : ByteArray).extract m (m + 1) = ofL [(digs (decide (3 % 2 = 1))).getD m 0] := digit_cut true m hm16
              obtain ⟨n1, hn1⟩ : ∃ n1, n + 1 = n1 := ⟨_, rfl⟩
              obtain ⟨m1, hm1⟩ : ∃ m1, m + 1 = m1 := ⟨_, rfl⟩
              rw [hn1] at hX1
              rw [hm1] at hX2
              obtain ⟨Y1, hY1⟩ : ∃ Y, ofL [(digs (decide (3 % 2 = 1))).getD n 0] = Y := ⟨_, rfl⟩
              obtain ⟨Y2, hY2⟩ : ∃ Y, ofL [(digs (decide (3 % 2 = 1))).getD m 0] = Y := ⟨_, rfl⟩
              rw [hY1] at hX1 HNEW
              rw [hY2] at hX2 HNEW
              have hz1 : (Y1.size : Int) ≤ 1 := by rw [← hY1, ofL_size]; simp
              have hz2 : (Y2.size : Int) ≤ 1 := by rw [← hY2, ofL_size]; simp
              obtain ⟨N, hN⟩ : ∃ N, T ++ ⟨#[124, 32]⟩ ++ Y1 ++ Y2 ++ ⟨#[32, 124]⟩ = N := ⟨_, rfl⟩
              rw [hN] at HNEW
              have HN2 : Hid (N = ofL (34 :: pcs (wayOf len1 z1) bs (j + 1))) := HNEW.out.symm
              have hn1i : (n : Int) + 1 = (n1 : Int) := by omega
              have hm1i : (m : Int) + 1 = (m1 : Int) := by omega
              have hnn : (n : Int) ≤ (n1 : Int) := by omega
              have hmm : (m : Int) ≤ (m1 : Int) := by omega
              have hn116 : (n1 : Int) ≤ 16 := by omega
              have hm116 : (m1 : Int) ≤ 16 := by omega
              clear hf hn hm hn1 hm1 hY1 hY2 hc hx hgk hbw hpc hnew hk hTl HNEW hn16 hm16 hcv
              go_wp2_with (go_at_call 11; go_must (refine (p1 _).mono ?_; rintro e W' ⟨rfl, rfl⟩))
              go_quiet (fail)
              go_wp2
              go_roundg g'
              case measure => omega
              case rel => exact ⟨(bel_drewN HBW.out _), j + 1, by first | rw [HN2.out] | rfl, by go_num, by have := HGK.out; omega⟩
            · have hp3 : ¬ ((c.toNat : Int) = 34) := by omega
              have n34 : ((c.toNat : Int) != 34) = true := by simpa using hp3
              have e34 : ((c.toNat : Int) == 34) = false := by simpa using hp3
              have hp4 : ¬ ((c.toNat : Int) = 124) := by omega
              have n124 : ((c.toNat : Int) != 124) = true := by simpa using hp4
              have e124 : ((c.toNat : Int) == 124) = false := by simpa using hp4
              have hp5 : ¬ ((c.toNat : Int) = 92) := by omega
              have n92 : ((c.toNat : Int) != 92) = true := by simpa using hp5
              have e92 : ((c.toNat : Int) == 92) = false := by simpa using hp5
              have p1 : ∀ u, Calls Tryd.prog 11 #[.int .i64 q, .int .i64 4] u fun e w' => e = .returned (.int .i64 3) ∧ u = w' := fun u => by have h := place_any q 4 u (by omega) (by omega); rw [hq] at h; exact h
              have hf := fin_pair T 3 c n m hn hm (by omega)
              rw [← hf] at HNEW
              have hX1 : (⟨#[48, 49, 50, 51, 52, 53, 54, 55, 56, 57, 97, 98, 99, 100, 101, 102]⟩ : ByteArray).extract n (n + 1) = ofL [(digs (decide (3 % 2 = 1))).getD n 0] := digit_cut true n hn16
              have hX2 : (⟨#[48, 49, 50, 51, 52, 53, 54, 55, 56, 57, 97, 98, 99, 100, 101, 102]⟩ : ByteArray).extract m (m + 1) = ofL [(digs (decide (3 % 2 = 1))).getD m 0] := digit_cut true m hm16
              obtain ⟨n1, hn1⟩ : ∃ n1, n + 1 = n1 := ⟨_, rfl⟩
              obtain ⟨m1, hm1⟩ : ∃ m1, m + 1 = m1 := ⟨_, rfl⟩
              rw [hn1] at hX1
              rw [hm1] at hX2
              obtain ⟨Y1, hY1⟩ : ∃ Y, ofL [(digs (decide (3 % 2 = 1))).getD n 0] = Y := ⟨_, rfl⟩
              obtain ⟨Y2, hY2⟩ : ∃ Y, ofL [(digs (decide (3 % 2 = 1))).getD m 0] = Y := ⟨_, rfl⟩
              rw [hY1] at hX1 HNEW
              rw [hY2] at hX2 HNEW
              have hz1 : (Y1.size : Int) ≤ 1 := by rw [← hY1, ofL_size]; simp
              have hz2 : (Y2.size : Int) ≤ 1 := by rw [← hY2, ofL_size]; simp
              obtain ⟨N, hN⟩ : ∃ N, T ++ ⟨#[124, 32]⟩ ++ Y1 ++ Y2 ++ ⟨#[32, 124]⟩ = N := ⟨_, rfl⟩
              rw [hN] at HNEW
              have HN2 : Hid (N = ofL (34 :: pcs (wayOf len1 z1) bs (j + 1))) := HNEW.out.symm
              have hn1i : (n : Int) + 1 = (n1 : Int) := by omega
              have hm1i : (m : Int) + 1 = (m1 : Int) := by omega
              have hnn : (n : Int) ≤ (n1 : Int) := by omega
              have hmm : (m : Int) ≤ (m1 : Int) := by omega
              have hn116 : (n1 : Int) ≤ 16 := by omega
              have hm116 : (m1 : Int) ≤ 16 := by omega
              clear hf hn hm hn1 hm1 hY1 hY2 hc hx hgk hbw hpc hnew hk hTl HNEW hn16 hm16 hcv
              go_wp2_with (go_at_call 11; go_must (refine (p1 _).mono ?_; rintro e W' ⟨rfl, rfl⟩))
              go_quiet (fail)
              go_wp2
              go_roundg g'
              case measure => omega
              case rel => exact ⟨(bel_drewN HBW.out _), j + 1, by first | rw [HN2.out] | rfl, by go_num, by have := HGK.out; omega⟩
      · have hjl : ¬ ((j : Int) < (bs.length : Int)) := by omega
        obtain rfl : j = bs.length := by omega
        clear hgk hlt
        obtain ⟨T, hT⟩ : ∃ T, ofL (34 :: pcs (wayOf len1 z1) bs bs.length) = T := ⟨_, rfl⟩
        have hTz : (T.size : Int) ≤ 400 := by rw [← hT, ofL_size, List.length_cons]; omega
        obtain ⟨B1, hB1⟩ : ∃ B, ⟨#[120]⟩ ++ T ++ ⟨#[34, 59]⟩ = B := ⟨_, rfl⟩
        obtain ⟨B2, hB2⟩ : ∃ B, ⟨#[10]⟩ ++ T = B := ⟨_, rfl⟩
        have hd1 : B1.data.toList = 120 :: 34 :: (pcs (wayOf len1 z1) bs bs.length ++ [34, 59]) := by rw [← hB1, ← hT]; simp [ofL]
        have hd2 : B2.data.toList = 10 :: 34 :: pcs (wayOf len1 z1) bs bs.length := by rw [← hB2, ← hT]; simp [ofL]
        have l1 : B1.data.toList.length ≤ 8192 := by
          rw [hd1]
          simp only [List.length_cons, List.length_append, List.length_nil]
          omega
        have l2 : B2.data.toList.length ≤ 8192 := by
          rw [hd2]
          simp only [List.length_cons]
          omega
        have a1 : Lx.allP B1.data.toList = ⟨[⟨1, [120], 0, 1⟩, ⟨3, bs, 0, 1⟩, ⟨4, [59], 0, 1⟩], 0, 0⟩ := by rw [allP_lex _ l1, hd1, yes_all]; rfl
        have a2 : Lx.allP B2.data.toList = ⟨[], 2, 6⟩ := by rw [allP_lex _ l2, hd2, no_all]; rfl
        have c1 := fun u => lexAll_any B1 u (by have : B1.data.toList.length = B1.size := by simp
                                                unfold maxLen; omega)
        have c2 := fun u => lexAll_any B2 u (by have : B2.data.toList.length = B2.size := by simp
                                                unfold maxLen; omega)
        rw [a1] at c1
        rw [a2] at c2
        have HBW : Hid (Below w.heap.size w wr) := hbw
        obtain ⟨wq, hwq⟩ : ∃ wq, wq = wr := ⟨_, rfl⟩
        subst hwq
        clear hd1 hd2 l1 l2 a1 a2 hTl hbw
        go_wp2_with (first
          | (go_at_call_of 8 B1; refine (c1 _).mono ?_; rintro e w1 ⟨⟨v1, rfl, ho1⟩, hb1⟩; obtain ⟨g, c, rfl, hg, hc⟩ := ho1.at (by simp); have hcA : w1.cell? ⟨g, 4, none⟩ = some (.int .i64 3) := hc 4 (by simp); have hcB : w1.cell? ⟨g, 5, none⟩ = some (.string ⟨bs.toArray⟩) := hc 5 (by simp); have hcC : w1.cell? ⟨g, 9, none⟩ = some (.string ⟨#[59]⟩) := hc 9 (by simp); have hglt : g < w1.heap.size := ((World.ownsRow.lt ho1) g rfl).2; clear hc ho1)
          | (go_at_call_of 8 B2; refine (c2 _).mono ?_; rintro e w2 ⟨⟨v2, rfl, ho2⟩, hb2⟩))
        clear ho2 c1 c2
        have hcA2 : w2.cell? ⟨g, 4, none⟩ = some (.int .i64 3) := (hb2.cell (p := ⟨g, 4, none⟩) hglt).trans hcA
        have hcB2 : w2.cell? ⟨g, 5, none⟩ = some (.string ⟨bs.toArray⟩) := (hb2.cell (p := ⟨g, 5, none⟩) hglt).trans hcB
        have hcC2 : w2.cell? ⟨g, 9, none⟩ = some (.string ⟨#[59]⟩) := (hb2.cell (p := ⟨g, 9, none⟩) hglt).trans hcC
        have hgl2 : g < w2.heap.size := Nat.lt_of_lt_of_le hglt hb2.size
        have HB2 : Hid (Below w.heap.size w w2) := below_after (below_after HBW.out hb1) hb2
        clear hcA hcB hcC hb1 hb2
        have qA := fun x : Cls w2 => (Cls.cell x g 4 hgl2).trans hcA2
        have qB := fun x : Cls w2 => (Cls.cell x g 5 hgl2).trans hcB2
        have qC := fun x : Cls w2 => (Cls.cell x g 9 hgl2).trans hcC2
        have qV := fun x : Cls w2 => conv_in (u := x.val) (a0 := a0) (cap0 := cap0) (bs := bs) (fun i hi => by
          obtain ⟨y, hy1, hy2⟩ := HR0.out i hi
          exact ⟨y, hy1, ((below_after HB2.out x.bel).cell (cell_lt hy2)).trans hy2⟩)
        clear hcA2 hcB2 hcC2 hgl2
        refine wp_region_calm (by kernel_rfl) (by kernel_rfl) (fun hne => ?_)
        repeat (go_big_quiet_step (first | (go_at_call 10; exact calm_of (cA _))))
        refine wpQuiet_nil ?_
        rintro _ ⟨x6, rfl⟩
        have hb6 := x6.bel
        generalize x6.val = w6 at *
        clear hne qA qB qC qV
        go_wp2
        go_ret
        exact ⟨rfl, below_after HB2.out hb6⟩
/-! ### THE ROW's STEP: variables laid, a tied card -/
set_option maxRecDepth 100000 in
theorem lifted (os : Os) (started : os.Started) (H : Type) (enc : TypeId × Value → H) :
    ReturnsInHanded {} Tryd.checked os 5 .any (fun w args => (Rows.lexBytesSpec.pre enc Tryd.prog Tryd.f5 Rows.lexBytesRow.domain false w args ∧ laidMetH Tryd.prog Rows.lexBytesRow.laid w) ∧ sizedMet enc Tryd.prog Tryd.f5 (OpenSpec.ofChange Rows.lexBytesSpec) false w args)
      (Rows.lexBytesSpec.post enc Tryd.prog Tryd.f5 false true false false) := by
  refine returnsInHanded_of_change_and (C := Tryd.checked) (X := fun w _ => laidMetH Tryd.prog Rows.lexBytesRow.laid w) (fun _ _ _ hh h => h.of_heap hh) own started (by kernel_rfl) Tryd.func5
    (ChangeSpec.witness_shaped (enc := enc) (C := Tryd.checked) (os := os) (X := fun w _ => laidMetH Tryd.prog Rows.lexBytesRow.laid w) false (World.laidAll Tryd.prog os Rows.lexBytesRow.laid) #[.slice none 0 0, .slice none 0 0] 8 (World.laidAll_os _ _ _)
      (World.shaped_of_ZipB (by kernel_rfl) (by kernel_rfl)) (by kernel_rfl) (by kernel_rfl) (by kernel_rfl)
      (by rw [MakeChecks.laidMetH_plain _ _ _ (by kernel_rfl)]; exact laidMet_laidAll _ (by kernel_rfl) (by kernel_rfl))) ?_
  intro W base args ds gs before hval0 hW _ _ hL _
  have hval : ∀ (j : Nat) t v, Tryd.f5.params[j]? = some t → args[j]? = some v → Value.okWide Tryd.prog W .any base t v := hval0
  have hW' := hW
  obtain ⟨p, q, hA0, hV, rfl, hfz, hnd⟩ := hW
  have hA : DataW.TrodAll enc Tryd.prog W 0 (fun _ => true) true Tryd.f5.params.toList args.toList ds p := hA0
  have hB := fun (W' : World) (bel : Below W.heap.size W W') => below_trodAll_of laidOut bel _ (by kernel_rfl) hA
  rw [Tryd.params5] at hA hval
  obtain ⟨v0, vs0, d0, ds0, p0, q0, hargs, rfl, rfl, h0, r0⟩ := trodAll_cons hA
  obtain ⟨v1, vs1, d1, ds1, p1, q1, rfl, rfl, rfl, h1, r1⟩ := trodAll_cons r0
  obtain ⟨rfl, rfl, rfl⟩ := trodAll_nil r1
  obtain rfl : args = #[v0, v1] := by cases args; simp_all
  obtain ⟨rfl, rfl⟩ := trodVars_none hV
  obtain ⟨a0, len0, cap0, rfl⟩ := okWide_slice Tryd.underlying37 (hval 0 37 v0 rfl rfl)
  obtain ⟨z0, w0⟩ : ∃ zs, IsRow .u8 W a0 len0 cap0 zs := by
    obtain ⟨fuel, hf⟩ := h0
    rcases open_ints Tryd.underlying37 Tryd.underlying5 (by kernel_rfl) hf with ⟨hcs, _⟩ | ⟨x, l, c, zs, hcs, _, hl, hm, hz, _, hcell, hwz⟩
    · simp [Value.cells] at hcs
      obtain ⟨rfl, rfl, rfl⟩ := hcs
      exact ⟨[], .inl ⟨rfl, rfl, rfl, rfl⟩⟩
    · simp [Value.cells] at hcs
      obtain ⟨rfl, rfl, rfl⟩ := hcs
      exact ⟨zs, .inr ⟨_, rfl, hl, hm, by simpa using hz, hcell, hwz⟩⟩
  obtain ⟨a1, len1, cap1, rfl⟩ := okWide_slice Tryd.underlying38 (hval 1 38 v1 rfl rfl)
  obtain ⟨z1, w1⟩ : ∃ zs, IsRow .i64 W a1 len1 cap1 zs := by
    obtain ⟨fuel, hf⟩ := h1
    rcases open_ints Tryd.underlying38 Tryd.underlying3 (by kernel_rfl) hf with ⟨hcs, _⟩ | ⟨x, l, c, zs, hcs, _, hl, hm, hz, _, hcell, hwz⟩
    · simp [Value.cells] at hcs
      obtain ⟨rfl, rfl, rfl⟩ := hcs
      exact ⟨[], .inl ⟨rfl, rfl, rfl, rfl⟩⟩
    · simp [Value.cells] at hcs
      obtain ⟨rfl, rfl, rfl⟩ := hcs
      exact ⟨zs, .inr ⟨_, rfl, hl, hm, by simpa using hz, hcell, hwz⟩⟩
  clear hA0 hval0
  refine (walk a0 len0 cap0 z0 a1 len1 cap1 z1 W w0 w1).mono fun e W' ⟨he, bel⟩ => ?_
  subst he
  exact ⟨_, rfl, _, _, _, [], _, [], hW', trodAll_mk1 (shut_bool Tryd.underlying4 _), hB W' bel, rfl, bel.frame _, fun h => by cases h⟩

theorem over : Rows.LexBytesSaid :=
  OpenClaim.holds_of_wide 5 Tryd.f5 rfl rfl rfl rfl rfl rfl rfl ⟨rfl, rfl, rfl, rfl, rfl⟩ rfl rfl rfl rfl rfl (by kernel_rfl) Tryd.func5 (by kernel_rfl)
    (of_decide_eq_true (by kernel_rfl)) (by unfold Func.isWrapper; first | (rw [if_pos (by decide +kernel)]; kernel_rfl) | (rw [if_neg (by decide +kernel)]; exact ⟨rfl, rfl⟩))
    (fun os started H enc _ => lifted os started H enc)

/-- THE STATEMENT: the card -/
theorem proved : Rows.LexBytesCardSaid :=
  Claim7.holds_tied_plain_at .later [] [.data, .pinned] true (true, "3e81c1bc683b3bdff90136a3b9451abcfa47785cfadcb66dfc063d9bc2a3244d") false over (fun _ h => by cases h) (by kernel_rfl) (fun _ h => by cases h) lexBytes_row_tie rfl ⟨rfl, rfl⟩ (by kernel_rfl) rfl
    (fun f fn hf hfn => by
      obtain rfl : f = 5 := Option.some.inj ((show Tryd.prog.funcNamed "rampart/rampartlaw08.LexBytes" = some 5 by kernel_rfl).symm.trans hf) |>.symm
      obtain rfl : fn = Tryd.f5 := (Option.some.inj (Tryd.func5.symm.trans hfn)).symm
      exact ⟨by kernel_rfl, fun j t ht => by
        rw [Tryd.params5] at ht
        have hm : t ∈ [37, 38] := by simpa using Array.mem_of_getElem? ht
        have hall : ([37, 38].all fun u => !Tryd.prog.wantsStandIn u) = true := by kernel_rfl
        exact (show Tryd.prog.wantsStandIn t = false by simpa using List.all_eq_true.1 hall t hm)⟩)
    (by kernel_rfl)
#print axioms proved
end Go.Proofs.YtihgifhkjiollaaDoor.lexBytes
