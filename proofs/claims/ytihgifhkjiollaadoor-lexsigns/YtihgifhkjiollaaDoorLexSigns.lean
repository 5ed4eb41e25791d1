/- LexSigns: for any numbers, signs one behind the other, with blanks or not, are these signs; no condition. -/
import Derived.Test.YtihgifhkjiollaaDoorLxSide
import Derived.Test.YtihgifhkjiollaaDoorLift
import Derived.Test.YtihgifhkjiollaaDoorTie
import Derived.Test.YtihgifhkjiollaaDoorCards
import Derived.LaidMore
import Derived.Lay
import Derived.SevenTiedAt
import Derived.Stop.Joined
namespace Go.Proofs.YtihgifhkjiollaaDoor.lexSigns
open Go.ChangeShapes Go.WideShapes Go.ChangeAt Go.RowKit
open Go.ChangeMaps (open_string shut_string)
set_option linter.unusedVariables false
set_option maxRecDepth 20000

/-- what the walk is told of a slice of numbers that came in -/
def IsRow (k : IntKind) (w : World) (a : Option Addr) (len cap : Nat) (zs : List Int) : Prop :=
  (a = none ∧ len = 0 ∧ cap = 0 ∧ zs = []) ∨
  ∃ x, a = some x ∧ len ≤ cap ∧ cap ≤ maxLen ∧ zs.length = cap ∧ (∀ i, i < zs.length → w.cell? (x.add i) = some (.int k (zs.getD i 0))) ∧ ∀ n ∈ zs, (Lit.int k n).wf = true
theorem IsRow.at {w : World} {a : Option Addr} {len cap : Nat} {zs : List Int} (h : IsRow .i64 w a len cap zs) : len ≤ 9223372036854775807 ∧ ∀ j, j < len → ∃ x : Addr, a = some x ∧ w.cell? (x.add j) = some (.int .i64 (zs.getD j 0)) := by
  rcases h with ⟨_, rfl, _⟩ | ⟨x, rfl, h1, h2, h3, h4, _⟩
  · exact ⟨by omega, fun j hj => absurd hj (Nat.not_lt_zero _)⟩
  · exact ⟨by unfold maxLen at h2; omega, fun j hj => ⟨x, rfl, h4 j (by omega)⟩⟩
theorem cell_lt {w : World} {p : Addr} {v : Value} (h : w.cell? p = some v) : p.block < w.heap.size := by
  by_cases hl : p.block < w.heap.size
  · exact hl
  · have : w.heap[p.block]? = none := Array.getElem?_eq_none (by omega)
    simp [World.cell?, this] at h
/-- the signs by their numbers -/
def sgn (k : Nat) : List UInt8 := [[40], [41], [59], [58], [44], [47], [91], [93], [33], [45], [46], [61], [45, 62], [60, 62]].getD k []
def txtOf (b : Bool) (k : Nat) : List UInt8 := sgn k ++ (if b = true ∨ k = 9 then [32] else [])
theorem lexL_sep (R : List UInt8) (line : Int) : lexL ([32] ++ R) line = lexL R line := lexL_blank 32 R line (by decide) (by decide)
theorem one1 (c : UInt8) (R : List UInt8) (h1 : Lx.bt Lx.letter c = false) (h2 : Lx.bt Lx.digit c = false) (h3 : c.toNat ≠ 36) (h4 : c.toNat ≠ 34) (h5 : c ≠ 45) (h6 : c ≠ 60) (h7 : Lx.bt Lx.oneSign c = true) : Lx.one (c :: R) = (⟨4, [c], 0, 0⟩, 1) := by
  have e : Lx.signP (c :: R) = [c] := by
    unfold Lx.signP
    have : ¬ ((c :: R).take 2 = [45, 62] ∨ (c :: R).take 2 = [60, 62]) := by
      rw [List.take_succ_cons]
      rintro (h | h)
      · injection h with h _; exact h5 h
      · injection h with h _; exact h6 h
    rw [if_neg this, if_pos (show Lx.begins Lx.oneSign (c :: R) = true from h7)]
    rfl
  rw [Lx.one_cons, if_neg (by rw [h1]; simp), if_neg (by rw [h2]; simp), if_neg h3, if_neg h4, e]
  rfl
theorem tok1 (c : UInt8) (R : List UInt8) (line : Int) (h0 : c.toNat ≠ 10) (hb : Lx.bt Lx.blank c = false) (hr : c.toNat ≠ 35) (h : Lx.one (c :: R) = (⟨4, [c], 0, 0⟩, 1)) : lexL ([c] ++ R) line = Lx.more [⟨4, [c], 0, line⟩] (lexL R line) := by
  show lexL (c :: R) line = _
  rw [lexL_tok c R line h0 hb hr (by rw [h]; simp), h]
  rfl
theorem tok2 (c d : UInt8) (R : List UInt8) (line : Int) (h0 : c.toNat ≠ 10) (hb : Lx.bt Lx.blank c = false) (hr : c.toNat ≠ 35) (h1 : Lx.bt Lx.letter c = false) (h2 : Lx.bt Lx.digit c = false) (h3 : c.toNat ≠ 36) (h4 : c.toNat ≠ 34) (hs : [c, d] = [45, 62] ∨ [c, d] = [60, 62]) : lexL ([c, d] ++ R) line = Lx.more [⟨4, [c, d], 0, line⟩] (lexL R line) := by
  have e : Lx.signP (c :: d :: R) = [c, d] := by
    unfold Lx.signP
    rw [if_pos (by simpa using hs)]
    rfl
  have ho : Lx.one (c :: d :: R) = (⟨4, [c, d], 0, 0⟩, 2) := by
    rw [Lx.one_cons, if_neg (by rw [h1]; simp), if_neg (by rw [h2]; simp), if_neg h3, if_neg h4, e]
    rfl
  show lexL (c :: d :: R) line = _
  rw [lexL_tok c (d :: R) line h0 hb hr (by rw [ho]; simp), ho]
  rfl
theorem minus (R : List UInt8) (line : Int) : lexL ([45] ++ ([32] ++ R)) line = Lx.more [⟨4, [45], 0, line⟩] (lexL ([32] ++ R) line) := by
  refine tok1 45 ([32] ++ R) line (by decide) (by decide) (by decide) ?_
  have e : Lx.signP (45 :: ([32] ++ R)) = [45] := by
    unfold Lx.signP
    rw [if_neg (by simp), if_pos (by rfl)]
    rfl
  rw [Lx.one_cons, if_neg (by decide), if_neg (by decide), if_neg (by decide), if_neg (by decide), e]
  rfl
theorem sign_step (b : Bool) (k : Nat) (hk : k < 14) (R : List UInt8) (line : Int) : lexL (txtOf b k ++ R) line = Lx.more [⟨4, sgn k, 0, line⟩] (lexL R line) := by
  have sep : ∀ S : List UInt8, S = [32] ∨ S = [] → lexL (S ++ R) line = lexL R line := by
    rintro S (rfl | rfl)
    · exact lexL_sep R line
    · rfl
  have hS : (if b = true ∨ k = 9 then ([32] : List UInt8) else []) = [32] ∨ (if b = true ∨ k = 9 then ([32] : List UInt8) else []) = [] := by
    split
    · exact Or.inl rfl
    · exact Or.inr rfl
  unfold txtOf
  rw [List.append_assoc]
  by_cases h9 : k = 9
  · subst h9
    rw [if_pos (Or.inr rfl)]
    exact (minus R line).trans (by rw [lexL_sep]; rfl)
  · obtain ⟨S, hSd⟩ : ∃ S, (if b = true ∨ k = 9 then ([32] : List UInt8) else []) = S := ⟨_, rfl⟩
    rw [hSd] at hS ⊢
    have fin : ∀ c : UInt8, c.toNat ≠ 10 → Lx.bt Lx.blank c = false → c.toNat ≠ 35 → Lx.bt Lx.letter c = false → Lx.bt Lx.digit c = false → c.toNat ≠ 36 → c.toNat ≠ 34 → c ≠ 45 → c ≠ 60 → Lx.bt Lx.oneSign c = true → lexL ([c] ++ (S ++ R)) line = Lx.more [⟨4, [c], 0, line⟩] (lexL R line) := by
      intro c a1 a2 a3 a4 a5 a6 a7 a8 a9 a10
      rw [tok1 c (S ++ R) line a1 a2 a3 (one1 c _ a4 a5 a6 a7 a8 a9 a10), sep S hS]
    have fin2 : ∀ c d : UInt8, c.toNat ≠ 10 → Lx.bt Lx.blank c = false → c.toNat ≠ 35 → Lx.bt Lx.letter c = false → Lx.bt Lx.digit c = false → c.toNat ≠ 36 → c.toNat ≠ 34 → ([c, d] = [45, 62] ∨ [c, d] = [60, 62]) → lexL ([c, d] ++ (S ++ R)) line = Lx.more [⟨4, [c, d], 0, line⟩] (lexL R line) := by
      intro c d a1 a2 a3 a4 a5 a6 a7 a8
      rw [tok2 c d (S ++ R) line a1 a2 a3 a4 a5 a6 a7 a8, sep S hS]
    match k, hk, h9 with
    | 0, _, _ => exact fin 40 (by decide) (by decide) (by decide) (by decide) (by decide) (by decide) (by decide) (by decide) (by decide) (by decide)
    | 1, _, _ => exact fin 41 (by decide) (by decide) (by decide) (by decide) (by decide) (by decide) (by decide) (by decide) (by decide) (by decide)
    | 2, _, _ => exact fin 59 (by decide) (by decide) (by decide) (by decide) (by decide) (by decide) (by decide) (by decide) (by decide) (by decide)
    | 3, _, _ => exact fin 58 (by decide) (by decide) (by decide) (by decide) (by decide) (by decide) (by decide) (by decide) (by decide) (by decide)
    | 4, _, _ => exact fin 44 (by decide) (by decide) (by decide) (by decide) (by decide) (by decide) (by decide) (by decide) (by decide) (by decide)
    | 5, _, _ => exact fin 47 (by decide) (by decide) (by decide) (by decide) (by decide) (by decide) (by decide) (by decide) (by decide) (by decide)
    | 6, _, _ => exact fin 91 (by decide) (by decide) (by decide) (by decide) (by decide) (by decide) (by decide) (by decide) (by decide) (by decide)
    | 7, _, _ => exact fin 93 (by decide) (by decide) (by decide) (by decide) (by decide) (by decide) (by decide) (by decide) (by decide) (by decide)
    | 8, _, _ => exact fin 33 (by decide) (by decide) (by decide) (by decide) (by decide) (by decide) (by decide) (by decide) (by decide) (by decide)
    | 10, _, _ => exact fin 46 (by decide) (by decide) (by decide) (by decide) (by decide) (by decide) (by decide) (by decide) (by decide) (by decide)
    | 11, _, _ => exact fin 61 (by decide) (by decide) (by decide) (by decide) (by decide) (by decide) (by decide) (by decide) (by decide) (by decide)
    | 12, _, _ => exact fin2 45 62 (by decide) (by decide) (by decide) (by decide) (by decide) (by decide) (by decide) (Or.inl rfl)
    | 13, _, _ => exact fin2 60 62 (by decide) (by decide) (by decide) (by decide) (by decide) (by decide) (by decide) (Or.inr rfl)
theorem signs_all (b : Bool) : ∀ (ks : List Nat), (∀ k ∈ ks, k < 14) → ∀ line, lexL (ks.flatMap (txtOf b)) line = .ok (ks.map fun k => ⟨4, sgn k, 0, line⟩) := by
  intro ks
  induction ks with
  | nil => intro _ line; exact lexL_nil line
  | cons k ks ih =>
    intro h line
    rw [List.flatMap_cons, sign_step b k (h k (by simp)), ih (fun x hx => h x (by simp [hx]))]
    rfl
theorem txt_len (b : Bool) (k : Nat) (hk : k < 14) : (txtOf b k).length ≤ 3 := by
  unfold txtOf
  have h1 : (sgn k).length ≤ 2 := by
    have : ∀ k : Fin 14, (sgn k.val).length ≤ 2 := by decide
    exact this ⟨k, hk⟩
  rw [List.length_append]
  split <;> simp <;> omega
/-- the row of texts that is wanted -/
def rowS (ks : List Nat) : List Value := ks.map fun k => Value.string ⟨(sgn k).toArray⟩
theorem infoS : (Tryd.prog.info? 9).map (fun i => (i.zero, i.size, i.bytes)) = some (some (.string ⟨#[]⟩), 1, 16) := by kernel_rfl
theorem sgn_size (k : Nat) (hk : k < 14) : 1 ≤ (sgn k).length ∧ (sgn k).length ≤ 2 := by
  have : ∀ k : Fin 14, 1 ≤ (sgn k.val).length ∧ (sgn k.val).length ≤ 2 := by decide
  exact this ⟨k, hk⟩
theorem sgn_minus (k : Nat) (hk : k < 14) : sgn k = [45] ↔ k = 9 := by
  have : ∀ k : Fin 14, sgn k.val = [45] ↔ k.val = 9 := by decide
  exact this ⟨k, hk⟩
def arr : Array Value := #[.string ⟨#[40]⟩, .string ⟨#[41]⟩, .string ⟨#[59]⟩, .string ⟨#[58]⟩, .string ⟨#[44]⟩, .string ⟨#[47]⟩, .string ⟨#[91]⟩, .string ⟨#[93]⟩, .string ⟨#[33]⟩, .string ⟨#[45]⟩, .string ⟨#[46]⟩, .string ⟨#[61]⟩, .string ⟨#[45, 62]⟩, .string ⟨#[60, 62]⟩]
theorem arr_at (k : Nat) (hk : k < 14) : arr[k]? = some (.string (ofL (sgn k))) := by
  match k, hk with
  | 0, _ => rfl
  | 1, _ => rfl
  | 2, _ => rfl
  | 3, _ => rfl
  | 4, _ => rfl
  | 5, _ => rfl
  | 6, _ => rfl
  | 7, _ => rfl
  | 8, _ => rfl
  | 9, _ => rfl
  | 10, _ => rfl
  | 11, _ => rfl
  | 12, _ => rfl
  | 13, _ => rfl
/-- v owns the texts of these signs -/
def OwnS (w : World) (base : Nat) (v : Value) (ks : List Nat) : Prop := w.ownsRow base 9 1 v ks.length (rowS ks)
theorem OwnS.form {w : World} {base : Nat} {v : Value} {ks : List Nat} (h : OwnS w base v ks) : ∃ p c, v = .slice p ks.length c := by
  unfold OwnS at h
  rcases h.2 with ⟨rfl, hn⟩ | ⟨g, cap, cur, rfl, _⟩
  · exact ⟨none, 0, by rw [hn]⟩
  · exact ⟨_, _, rfl⟩
theorem app_str {ops : Array Oper} {rest : List Oper} {o : Oper} {a : Act} {w : World} {Q : Exit → Act → World → Prop} (hgd : o.guard = none) (s x : Operand)
    (ho : o.op = .call { callee := .builtin .append, args := #[s, x], argTypes := #[41, 41] })
    (base : Nat) (v : Value) (ks : List Nat) (hs : a.eval s = v) (HO : Hid (OwnS w base v ks)) (hbase : base ≤ w.heap.size) (hn : ks.length ≤ 1000000) (k : Nat) (S : ByteArray) (hS : S = ofL (sgn k))
    (hx : a.eval x = .slice (some ⟨w.heap.size, 0, none⟩) 1 1)
    (h : ∀ v' w', Hid (OwnS w' base v' (ks ++ [k])) → Hid (∀ B W, B ≤ base → B ≤ W.heap.size → Below B W w → Below B W w') → wpList Tryd.prog ops Q rest (a.put o.dst v') w') :
    wpList Tryd.prog ops Q (o :: rest) a (w.alloc (.cells #[.string S] 9)) := by
  subst hS
  obtain ⟨i0, hib, hz0, hz1, hz2⟩ := info_parts infoS
  have hO : OwnS w base v ks := HO
  have hO2 := World.ownsRow.alloc hO (.cells #[.string (ofL (sgn k))] 9)
  refine wpList_append_own _ hgd s x 41 ho base 9 i0 _ 1 16 Tryd.underlying41 hib hz0 hz1 hz2 rfl (by decide) v ks.length (rowS ks) hs hO2 ⟨w.heap.size, 0, none⟩ 1 1 [.string (ofL (sgn k))] hx rfl ?_ ?_ (by unfold maxLen; omega) (by omega) (by simp; omega) ?_
  · intro j u hj
    match j, hj with
    | 0, hj => simp at hj; subst hj; simp [Addr.add]
  · intro u hu
    simp at hu
    subst hu
    rfl
  · intro v' w' hown hgrow _
    refine h v' w' ?_ ?_
    · show OwnS _ _ _ _
      unfold OwnS
      rw [List.length_append]
      have e : rowS (ks ++ [k]) = rowS ks ++ [.string (ofL (sgn k))] := by unfold rowS; rw [List.map_append]; rfl
      rw [e]
      exact hown
    · intro B W hB hBW hb
      exact (hb.alloc (Nat.le_trans hBW hb.size) _).grown hgrow (by have := hb.size; simp; omega) (fun g hg => Nat.le_trans hB (World.ownsRow.lt hO2 g hg).1)
set_option maxHeartbeats 2000000 in
theorem walk (a : Option Addr) (len cap : Nat) (zs : List Int) (b : Bool) (w : World) (r : IsRow .i64 w a len cap zs) :
    Calls Tryd.prog 6 #[.slice a len cap, .bool b] w fun e w' => e = .returned (.bool true) ∧ Below w.heap.size w w' := by
  obtain ⟨hlm, hrow⟩ := r.at
  have HR : Hid (∀ j, j < len → ∃ x : Addr, a = some x ∧ w.cell? (x.add j) = some (.int .i64 (zs.getD j 0))) := hrow
  clear hrow r
  have hlm' : (len : Int) ≤ 9223372036854775807 := by omega
  go_enter Tryd.func6, Tryd.ntmps6
  go_wp2
  have HA : Hid (∀ k, k < 14 → (w.alloc (.cells arr 40)).cell? ⟨w.heap.size, k, none⟩ = some (.string (ofL (sgn k)))) := fun k hk => (World.cell?_alloc_new w arr _ k).trans (arr_at k hk)
  have HW : Hid (Below w.heap.size w (w.alloc (.cells arr 40)) ∧ (w.alloc (.cells arr 40)).heap.size = w.heap.size + 1) := ⟨below1 _ _, by simp⟩
  unfold arr at HA HW
  obtain ⟨W0, hW0⟩ : ∃ W0, w.alloc (.cells #[.string ⟨#[40]⟩, .string ⟨#[41]⟩, .string ⟨#[59]⟩, .string ⟨#[58]⟩, .string ⟨#[44]⟩, .string ⟨#[47]⟩, .string ⟨#[91]⟩, .string ⟨#[93]⟩, .string ⟨#[33]⟩, .string ⟨#[45]⟩, .string ⟨#[46]⟩, .string ⟨#[61]⟩, .string ⟨#[45, 62]⟩, .string ⟨#[60, 62]⟩] 40) = W0 := ⟨_, rfl⟩
  rw [hW0] at HA HW ⊢
  clear hW0
  obtain ⟨B0, hB0⟩ : ∃ B0, B0 = w.heap.size + 1 := ⟨_, rfl⟩
  have hB0' : w.heap.size < B0 := by omega
  have HB0 : Hid (B0 = w.heap.size + 1) := hB0
  clear hB0
  go_loopg [6, 7, 8] 41 (fun gk sv wv iv wx => ∃ ks : List Nat, sv = .string (ofL (ks.flatMap (txtOf b))) ∧ iv = .int .i64 (ks.length : Int) ∧ Hid (∀ k ∈ ks, k < 14) ∧ OwnS wx B0 wv ks ∧ Below B0 W0 wx ∧ 41 = ks.length + gk ∧ (ofL (ks.flatMap (txtOf b))).size ≤ 3 * ks.length)
  case atStart => exact ⟨[], rfl, rfl, (by intro k hk; simp at hk), World.ownsRow_nil _ _ _ _, Below.refl _ _, rfl, Nat.le_refl 0⟩
  case round =>
    obtain ⟨ks, rfl, rfl, hks, hown, hbw, hgk, hsz⟩ := hrel
    obtain ⟨vp, vc, rfl⟩ := hown.form
    have hszw : B0 ≤ wr.heap.size := Nat.le_trans (by have := HW.out.2; have := HB0.out; omega) hbw.size
    by_cases hin : ks.length < len ∧ ks.length < 40
    · obtain ⟨hi1, hi2⟩ := hin
      obtain ⟨g', rfl⟩ : ∃ g', gk = g' + 1 := ⟨gk - 1, by omega⟩
      obtain ⟨x, rfl, hx⟩ := HR.out ks.length hi1
      obtain ⟨q, hq⟩ : ∃ q, zs.getD ks.length 0 = q := ⟨_, rfl⟩
      rw [hq] at hx
      obtain ⟨k, hk⟩ : ∃ k : Nat, q % 14 = (k : Int) := ⟨(q % 14).toNat, by omega⟩
      have hk14 : k < 14 := by omega
      have hxl := cell_lt hx
      have hB0w : Below w.heap.size w wr := HW.out.1.trans (hbw.mono (by omega))
      have hcx : wr.cell? (x.add ks.length) = some (.int .i64 q) := (hB0w.cell hxl).trans hx
      have hca : wr.cell? ⟨w.heap.size, k, none⟩ = some (.string (ofL (sgn k))) := (hbw.cell (p := ⟨w.heap.size, k, none⟩) hB0').trans (HA.out k hk14)
      have hp : ∀ u, Calls Tryd.prog 11 #[.int .i64 q, .int .i64 14] u fun e w' => e = .returned (.int .i64 (k : Int)) ∧ u = w' := fun u => by have := place_any q 14 u (by omega) (by omega); rwa [hk] at this
      obtain ⟨z1, z2⟩ := sgn_size k hk14
      have hap : ofL (ks.flatMap (txtOf b)) ++ ofL (sgn k) ++ ofL (if b = true ∨ k = 9 then [32] else []) = ofL ((ks ++ [k]).flatMap (txtOf b)) := by
        rw [ofL_app, ofL_app, ofL_data, ofL_data, List.flatMap_append]
        congr 1
        simp [txtOf]
      have hks2 : Hid (∀ c ∈ ks ++ [k], c < 14) := fun c hc => by
        rcases List.mem_append.1 hc with h | h
        · exact hks.out c h
        · simp at h; omega
      have hsz2 : Hid ((ofL ((ks ++ [k]).flatMap (txtOf b))).size ≤ 3 * (ks ++ [k]).length) := by
        show _ ≤ _
        have h1 := txt_len b k hk14
        rw [ofL_size] at hsz ⊢
        rw [List.flatMap_append, List.length_append, List.length_append]
        have e : ([k].flatMap (txtOf b)) = txtOf b k := by simp
        rw [e]
        simp only [List.length_singleton]
        omega
      have hmin := sgn_minus k hk14
      have HOS : Hid (OwnS wr B0 (.slice vp ks.length vc) ks) := hown
      have HBW : Hid (Below B0 W0 wr) := hbw
      have HGK : Hid (41 = ks.length + (g' + 1)) := hgk
      obtain ⟨S, hS⟩ : ∃ S, ofL (sgn k) = S := ⟨_, rfl⟩
      have HS : Hid (S = ofL (sgn k)) := hS.symm
      have hSz : (S.size : Int) ≤ 2 := by rw [← hS, ofL_size]; omega
      have hTz : ((ofL (ks.flatMap (txtOf b))).size : Int) ≤ 200 := by omega
      have hcmp : (S.toList == [45]) = decide (k = 9) := by
        rw [toList_data, ← hS, ofL_data]
        by_cases h9 : k = 9
        · rw [hmin.2 h9, decide_eq_true h9]; rfl
        · rw [decide_eq_false h9]
          have : sgn k ≠ [45] := fun h => h9 (hmin.1 h)
          simpa using this
      rw [hS] at hca hap
      obtain ⟨T, hT⟩ : ∃ T, ofL (ks.flatMap (txtOf b)) = T := ⟨_, rfl⟩
      obtain ⟨T2, hT2⟩ : ∃ T2, ofL ((ks ++ [k]).flatMap (txtOf b)) = T2 := ⟨_, rfl⟩
      have HT2 : Hid (T2 = ofL ((ks ++ [k]).flatMap (txtOf b))) := hT2.symm
      rw [hT2, hT] at hap
      rw [hT] at hTz
      have hil : (ks.length : Int) < (len : Int) := by omega
      have hi40 : (ks.length : Int) < 40 := by omega
      have hk0 : (0 : Int) ≤ (k : Int) := by omega
      have hk14i : (k : Int) < 14 := by omega
      have hksl : ks.length ≤ 1000000 := by omega
      clear hx hq hk hown hbw hks hmin hS hsz hB0w hT2 z1 z2 hgk
      have hsep : b = true ∨ (b = false ∧ k = 9) ∨ (b = false ∧ k ≠ 9) := by
        cases b
        · by_cases h : k = 9
          · exact Or.inr (Or.inl ⟨rfl, h⟩)
          · exact Or.inr (Or.inr ⟨rfl, h⟩)
        · exact Or.inl rfl
      rcases hsep with rfl | ⟨rfl, hk9⟩ | ⟨rfl, hk9⟩
      · rw [if_pos (Or.inl rfl)] at hap
        have hap2 : T ++ S ++ ⟨#[32]⟩ = T2 := hap
        clear hap
        go_wp2_with (first
          | (go_at_call 11; go_must (refine (hp _).mono ?_; rintro e W' ⟨rfl, rfl⟩))
          | (at_builtin; go_must (refine app_str rfl _ _ rfl B0 _ ks rfl HOS hszw hksl k _ HS.out rfl ?_)))
        intro v' w3 HO3 HB3
        have HB4 : Hid (Below B0 W0 w3) := HB3.out _ _ (Nat.le_refl _) (by have := HW.out.2; have := HB0.out; omega) HBW.out
        clear HB3 HOS HBW hcx hca hp
        go_wp2
        go_roundg g'
        case measure => omega
        case rel => exact ⟨ks ++ [k], by rw [HT2.out], by rw [List.length_append, List.length_singleton]; go_num, hks2, HO3.out, HB4.out, by have := HGK.out; rw [List.length_append, List.length_singleton]; omega, hsz2.out⟩
      · rw [if_pos (Or.inr hk9)] at hap
        have hap2 : T ++ S ++ ⟨#[32]⟩ = T2 := hap
        rw [decide_eq_true hk9] at hcmp
        clear hk9
        clear hap
        go_wp2_with (first
          | (go_at_call 11; go_must (refine (hp _).mono ?_; rintro e W' ⟨rfl, rfl⟩))
          | (at_builtin; go_must (refine app_str rfl _ _ rfl B0 _ ks rfl HOS hszw hksl k _ HS.out rfl ?_)))
        intro v' w3 HO3 HB3
        have HB4 : Hid (Below B0 W0 w3) := HB3.out _ _ (Nat.le_refl _) (by have := HW.out.2; have := HB0.out; omega) HBW.out
        clear HB3 HOS HBW hcx hca hp
        go_wp2
        go_roundg g'
        case measure => omega
        case rel => exact ⟨ks ++ [k], by rw [HT2.out], by rw [List.length_append, List.length_singleton]; go_num, hks2, HO3.out, HB4.out, by have := HGK.out; rw [List.length_append, List.length_singleton]; omega, hsz2.out⟩
      · rw [if_neg (by rintro (h | h); cases h; exact hk9 h)] at hap
        have hap2 : T ++ S = T2 := by
          rw [← hap]
          apply ByteArray.ext
          simp [ofL]
        rw [decide_eq_false hk9] at hcmp
        clear hap
        go_wp2_with (first
          | (go_at_call 11; go_must (refine (hp _).mono ?_; rintro e W' ⟨rfl, rfl⟩))
          | (at_builtin; go_must (refine app_str rfl _ _ rfl B0 _ ks rfl HOS hszw hksl k _ HS.out rfl ?_)))
        intro v' w3 HO3 HB3
        have HB4 : Hid (Below B0 W0 w3) := HB3.out _ _ (Nat.le_refl _) (by have := HW.out.2; have := HB0.out; omega) HBW.out
        clear HB3 HOS HBW hcx hca hp
        go_wp2
        go_roundg g'
        case measure => omega
        case rel => exact ⟨ks ++ [k], by rw [HT2.out], by rw [List.length_append, List.length_singleton]; go_num, hks2, HO3.out, HB4.out, by have := HGK.out; rw [List.length_append, List.length_singleton]; omega, hsz2.out⟩
    · have hT := signs_all b ks hks.out 1
      have hd := ofL_data (ks.flatMap (txtOf b))
      obtain ⟨T, hTT⟩ : ∃ T, ofL (ks.flatMap (txtOf b)) = T := ⟨_, rfl⟩
      rw [hTT] at hd hsz
      have hksl : ks.length ≤ 41 := by omega
      have hl8 : T.data.toList.length ≤ 8192 := by
        have : T.data.toList.length = T.size := by simp
        omega
      have hAll : Lx.allP T.data.toList = ⟨ks.map fun k => ⟨4, sgn k, 0, 1⟩, 0, 0⟩ := by
        rw [allP_lex _ hl8, hd, hT]
        rfl
      have c1 := lexAll_any T wr (by unfold maxLen; omega)
      rw [hAll] at c1
      have cA := fun u => awake_any u
      have HOS : Hid (OwnS wr B0 (.slice vp ks.length vc) ks) := hown
      have HBW : Hid (Below w.heap.size w wr) := HW.out.1.trans (hbw.mono (by omega))
      have hin2 : (ks.length : Int) < (len : Int) → 40 ≤ (ks.length : Int) := fun h => by
        by_cases h2 : ks.length < 40
        · exact absurd ⟨by omega, h2⟩ hin
        · omega
      have hin3 : ¬ ((ks.length : Int) < (len : Int)) ∨ (((ks.length : Int) < (len : Int)) ∧ ¬ ((ks.length : Int) < 40)) := by
        by_cases h : (ks.length : Int) < (len : Int)
        · exact Or.inr ⟨h, by have := hin2 h; omega⟩
        · exact Or.inl h
      obtain ⟨wq, hwq⟩ : ∃ wq, wq = wr := ⟨_, rfl⟩
      subst hwq
      clear hT hd hl8 hAll hin hin2 hown hbw hgk hks hsz
      have go1 : ∀ (p1 : Option Addr) (cc1 : Nat) (w1 wx : World) (i : Nat), OwnT 30 w1 wq.heap.size (.slice p1 ks.length cc1) (ks.map fun k => ⟨4, sgn k, 0, 1⟩) → Below wq.heap.size wq w1 → Below w1.heap.size w1 wx → i < ks.length → ∃ g1 c1 g2 c2, p1 = some ⟨g1, 0, none⟩ ∧ cc1 = c1 ∧ vp = some ⟨g2, 0, none⟩ ∧ vc = c2 ∧ ∃ S : ByteArray, wx.cell? ⟨g1, i * 4, none⟩ = some (.int .i64 4) ∧ wx.cell? ⟨g1, i * 4 + 1, none⟩ = some (.string S) ∧ wx.cell? ⟨g2, i, none⟩ = some (.string S) := by
        intro p1 cc1 w1 wx i ho hb1 hbx hi
        have hne : (ks.map fun k => (⟨4, sgn k, 0, 1⟩ : Lx.Tok)) ≠ [] := fun h => by
          have := congrArg List.length h
          rw [List.length_map] at this
          simp at this
          rw [this] at hi
          simp at hi
        have ho' : OwnT 30 w1 wq.heap.size (.slice p1 (ks.map fun k => (⟨4, sgn k, 0, 1⟩ : Lx.Tok)).length cc1) (ks.map fun k => ⟨4, sgn k, 0, 1⟩) := by rw [List.length_map]; exact ho
        obtain ⟨g1, e1, hv1, hc1⟩ := elem_cells ho' hbx hne
        obtain ⟨a0, a1, _, _⟩ := hc1.out i (by rw [List.length_map]; exact hi)
        rw [List.getElem_map] at a0 a1
        injection hv1 with h1 h2 h3
        have hO := HOS.out
        unfold OwnS at hO
        rcases hO.2 with ⟨hv, hn⟩ | ⟨g, cap, cur, hv, hbg, hg, hle, hm, hcur, htake⟩
        · omega
        · injection hv with h4 h5 h6
          subst h4 h6
          refine ⟨g1, e1, g, vc, h1, h3, rfl, rfl, ofL (sgn ks[i]), a0, a1, ?_⟩
          have hlt : g < wq.heap.size := (Array.getElem?_eq_some_iff.1 hg).1
          have hcell := World.ownsRow.cellAt hO i (by omega)
          rw [((below_after hb1 hbx).cell (p := ⟨g, i, none⟩) hlt), hcell]
          unfold rowS
          rw [List.getElem?_map, List.getElem?_eq_getElem hi]
          rfl
      have HGO : Hid (∀ (p1 : Option Addr) (cc1 : Nat) (w1 wx : World) (i : Nat), OwnT 30 w1 wq.heap.size (.slice p1 ks.length cc1) (ks.map fun k => ⟨4, sgn k, 0, 1⟩) → Below wq.heap.size wq w1 → Below w1.heap.size w1 wx → i < ks.length → ∃ g1 c1 g2 c2, p1 = some ⟨g1, 0, none⟩ ∧ cc1 = c1 ∧ vp = some ⟨g2, 0, none⟩ ∧ vc = c2 ∧ ∃ S : ByteArray, wx.cell? ⟨g1, i * 4, none⟩ = some (.int .i64 4) ∧ wx.cell? ⟨g1, i * 4 + 1, none⟩ = some (.string S) ∧ wx.cell? ⟨g2, i, none⟩ = some (.string S)) := go1
      clear go1 HOS
      rcases hin3 with h1 | ⟨h1, h2⟩
      all_goals (
        go_wp2_with (go_at_call 8; go_must (refine c1.mono ?_; rintro e w1 ⟨⟨v1, rfl, ho1⟩, hb1⟩; obtain ⟨p1, cc1, rfl⟩ := ho1.form))
        obtain ⟨wo, hwo⟩ : ∃ wo, wo = w1 := ⟨_, rfl⟩
        subst hwo
        have HO1 : Hid (OwnT 30 wo wq.heap.size (.slice p1 ks.length cc1) (ks.map fun k => ⟨4, sgn k, 0, 1⟩)) := by
          have h := ho1
          rw [List.length_map] at h
          exact h
        have HB1 : Hid (Below wq.heap.size wq wo) := hb1
        clear ho1 hb1 c1 h1
        go_loopg [13] ks.length (fun gk iv wx => Below wo.heap.size wo wx ∧ ∃ i : Nat, iv = .int .i64 (i : Int) ∧ ks.length = i + gk)
        case atStart => exact ⟨Below.refl _ _, 0, by first | rfl | (go_num), by omega⟩
        case round =>
          obtain ⟨hbx, i, rfl, hi⟩ := hrel
          by_cases hlt : i < ks.length
          · obtain ⟨g', rfl⟩ : ∃ g', gk = g' + 1 := ⟨gk - 1, by omega⟩
            obtain ⟨g1, q1, g2, q2, rfl, rfl, rfl, rfl, S, a0, a1, a2⟩ := HGO.out p1 cc1 wo wr i HO1.out HB1.out hbx hlt
            have HI : Hid (ks.length = i + (g' + 1)) := hi
            have hltI : (i : Int) < (ks.length : Int) := by omega
            have hib : (i : Int) + 1 ≤ 41 := by omega
            have HX : Hid (Below wo.heap.size wo wr) := hbx
            clear hi hbx
            go_wp2
            go_quiet (fail)
            go_wp2
            go_roundg g'
            case measure => omega
            case rel => exact ⟨bel_drewN HX.out _, i + 1, by go_num, by have := HI.out; omega⟩
          · have hltI : ¬ ((i : Int) < (ks.length : Int)) := by omega
            clear hi
            go_wp2_with (go_at_call 10; go_must (refine (cA _).mono ?_; rintro e w3 ⟨rfl, hb3⟩))
            go_ret
            exact ⟨rfl, below_after (below_after HBW.out (below_after HB1.out hbx)) hb3⟩)
/-! ### THE ROW's STEP: variables laid, a tied card -/
set_option maxRecDepth 100000 in
theorem lifted (os : Os) (started : os.Started) (H : Type) (enc : TypeId × Value → H) :
    ReturnsInHanded {} Tryd.checked os 6 .any (fun w args => (Rows.lexSignsSpec.pre enc Tryd.prog Tryd.f6 Rows.lexSignsRow.domain false w args ∧ laidMetH Tryd.prog Rows.lexSignsRow.laid w) ∧ sizedMet enc Tryd.prog Tryd.f6 (OpenSpec.ofChange Rows.lexSignsSpec) false w args)
      (Rows.lexSignsSpec.post enc Tryd.prog Tryd.f6 false true false false) := by
  refine returnsInHanded_of_change_and (C := Tryd.checked) (X := fun w _ => laidMetH Tryd.prog Rows.lexSignsRow.laid w) (fun _ _ _ hh h => h.of_heap hh) own started (by kernel_rfl) Tryd.func6
    (ChangeSpec.witness_shaped (enc := enc) (C := Tryd.checked) (os := os) (X := fun w _ => laidMetH Tryd.prog Rows.lexSignsRow.laid w) false (World.laidAll Tryd.prog os Rows.lexSignsRow.laid) #[.slice none 0 0, .bool false] 8 (World.laidAll_os _ _ _)
      (World.shaped_of_ZipB (by kernel_rfl) (by kernel_rfl)) (by kernel_rfl) (by kernel_rfl) (by kernel_rfl)
      (by rw [MakeChecks.laidMetH_plain _ _ _ (by kernel_rfl)]; exact laidMet_laidAll _ (by kernel_rfl) (by kernel_rfl))) ?_
  intro W base args ds gs before hval0 hW _ _ hL _
  have hval : ∀ (j : Nat) t v, Tryd.f6.params[j]? = some t → args[j]? = some v → Value.okWide Tryd.prog W .any base t v := hval0
  have hW' := hW
  obtain ⟨p, q, hA0, hV, rfl, hfz, hnd⟩ := hW
  have hA : DataW.TrodAll enc Tryd.prog W 0 (fun _ => true) true Tryd.f6.params.toList args.toList ds p := hA0
  have hB := fun (W' : World) (bel : Below W.heap.size W W') => below_trodAll_of laidOut bel _ (by kernel_rfl) hA
  rw [Tryd.params6] at hA hval
  obtain ⟨v0, vs0, d0, ds0, p0, q0, hargs, rfl, rfl, h0, r0⟩ := trodAll_cons hA
  obtain ⟨v1, vs1, d1, ds1, p1, q1, rfl, rfl, rfl, h1, r1⟩ := trodAll_cons r0
  obtain ⟨rfl, rfl, rfl⟩ := trodAll_nil r1
  obtain rfl : args = #[v0, v1] := by cases args; simp_all
  obtain ⟨rfl, rfl⟩ := trodVars_none hV
  obtain ⟨a0, len0, cap0, rfl⟩ := okWide_slice Tryd.underlying38 (hval 0 38 v0 rfl rfl)
  obtain ⟨z0, w0⟩ : ∃ zs, IsRow .i64 W a0 len0 cap0 zs := by
    obtain ⟨fuel, hf⟩ := h0
    rcases open_ints Tryd.underlying38 Tryd.underlying3 (by kernel_rfl) hf with ⟨hcs, _⟩ | ⟨x, l, c, zs, hcs, _, hl, hm, hz, _, hcell, hwz⟩
    · simp [Value.cells] at hcs
      obtain ⟨rfl, rfl, rfl⟩ := hcs
      exact ⟨[], .inl ⟨rfl, rfl, rfl, rfl⟩⟩
    · simp [Value.cells] at hcs
      obtain ⟨rfl, rfl, rfl⟩ := hcs
      exact ⟨zs, .inr ⟨_, rfl, hl, hm, by simpa using hz, hcell, hwz⟩⟩
  obtain ⟨a1, rfl, rfl, rfl⟩ := open_bool Tryd.underlying4 (hval 1 4 v1 rfl rfl) h1
  clear hA0 hval0
  refine (walk a0 len0 cap0 z0 a1 W w0).mono fun e W' ⟨he, bel⟩ => ?_
  subst he
  exact ⟨_, rfl, _, _, _, [], _, [], hW', trodAll_mk1 (shut_bool Tryd.underlying4 _), hB W' bel, rfl, bel.frame _, fun h => by cases h⟩

theorem over : Rows.LexSignsSaid :=
  OpenClaim.holds_of_wide 6 Tryd.f6 rfl rfl rfl rfl rfl rfl rfl ⟨rfl, rfl, rfl, rfl, rfl⟩ rfl rfl rfl rfl rfl (by kernel_rfl) Tryd.func6 (by kernel_rfl)
    (of_decide_eq_true (by kernel_rfl)) (by unfold Func.isWrapper; first | (rw [if_pos (by decide +kernel)]; kernel_rfl) | (rw [if_neg (by decide +kernel)]; exact ⟨rfl, rfl⟩))
    (fun os started H enc _ => lifted os started H enc)

/-- THE STATEMENT: the card -/
theorem proved : Rows.LexSignsCardSaid :=
  Claim7.holds_tied_plain_at .later [] [.data, .pinned] true (true, "3e81c1bc683b3bdff90136a3b9451abcfa47785cfadcb66dfc063d9bc2a3244d") false over (fun _ h => by cases h) (by kernel_rfl) (fun _ h => by cases h) lexSigns_row_tie rfl ⟨rfl, rfl⟩ (by kernel_rfl) rfl
    (fun f fn hf hfn => by
      obtain rfl : f = 6 := Option.some.inj ((show Tryd.prog.funcNamed "rampart/rampartlaw08.LexSigns" = some 6 by kernel_rfl).symm.trans hf) |>.symm
      obtain rfl : fn = Tryd.f6 := (Option.some.inj (Tryd.func6.symm.trans hfn)).symm
      exact ⟨by kernel_rfl, fun j t ht => by
        rw [Tryd.params6] at ht
        have hm : t ∈ [38, 4] := by simpa using Array.mem_of_getElem? ht
        have hall : ([38, 4].all fun u => !Tryd.prog.wantsStandIn u) = true := by kernel_rfl
        exact (show Tryd.prog.wantsStandIn t = false by simpa using List.all_eq_true.1 hall t hm)⟩)
    (by kernel_rfl)
#print axioms proved
end Go.Proofs.YtihgifhkjiollaaDoor.lexSigns
