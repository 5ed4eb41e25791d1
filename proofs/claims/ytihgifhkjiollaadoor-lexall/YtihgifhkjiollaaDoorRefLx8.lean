/- The reference of layer 8: All. -/
import Derived.Test.YtihgifhkjiollaaDoorRefLx7
import Derived.Test.YtihgifhkjiollaaDoorLxs9
namespace Go.Proofs.YtihgifhkjiollaaDoor
open Go.RowKit
set_option linter.unusedVariables false
set_option linter.unusedSimpArgs false

/-- how far All is -/
def Rst (s : ByteArray) (R : Except Int (List Lx.Tok)) (pos : Nat) (acc : List Lx.Tok) (line : Nat) : Prop :=
  ∃ f : Nat, s.size ≤ pos + f ∧ acc.length ≤ pos ∧ line ≤ pos + 1 ∧ Lx.more acc (Lx.lexF f (s.data.toList.drop pos) (line : Int)) = R
/-- how far a remark is -/
def Fr (s : ByteArray) (q e : Nat) : Prop := q + (Lx.front Lx.inLine (s.data.toList.drop q)).length = e
theorem Fr.on {s : ByteArray} {q e : Nat} (h : Fr s q e) (hq : q < s.size) (hx : (s.data.toList.getD q 0).toNat ≠ 10) : Fr s (q + 1) e := by
  unfold Fr at h ⊢
  have hb : Lx.bt Lx.inLine (s.data.toList.getD q 0) = true := by
    unfold Lx.bt Lx.inLine
    exact decide_eq_true (by omega)
  rw [drop_at' s q hq, Lx.front_cons, if_pos hb, List.length_cons] at h
  omega
theorem Fr.stop {s : ByteArray} {q e : Nat} (h : Fr s q e) (hq : q < s.size) (hx : (s.data.toList.getD q 0).toNat = 10) : q = e := by
  unfold Fr at h
  have hb : Lx.bt Lx.inLine (s.data.toList.getD q 0) = false := by
    unfold Lx.bt Lx.inLine
    exact decide_eq_false (by omega)
  rw [drop_at' s q hq, Lx.front_cons, hb, if_neg Bool.false_ne_true] at h
  simpa using h
theorem Fr.end_ {s : ByteArray} {q e : Nat} (h : Fr s q e) (hq : ¬ q < s.size) : q = e := by
  unfold Fr at h
  rw [drop_nil_of s q hq] at h
  simpa [Lx.front_nil] using h
theorem OneP.of_good {s : ByteArray} {i : Nat} {e : Ending} (h : OneP s i e) (T : Lx.Tok) (n : Nat) (hT : Lx.one (s.data.toList.drop i) = (T, n)) (hn : n ≠ 0) : e = .returned (.tuple #[.agg (tokV T), .int .i64 ((i + n : Nat) : Int), .bool true]) := by
  obtain ⟨t, m, ok, rfl, ⟨rfl, h1, rfl, rfl⟩ | ⟨rfl, h1⟩⟩ := h
  · rw [hT]
  · rw [hT] at h1; exact absurd h1 hn
theorem OneP.of_bad {s : ByteArray} {i : Nat} {e : Ending} (h : OneP s i e) (hn : (Lx.one (s.data.toList.drop i)).2 = 0) : ∃ (tk tn tl : Int) (ts : ByteArray) (m : Nat), e = .returned (.tuple #[.agg #[.int .i64 tk, .string ts, .int .i64 tn, .int .i64 tl], .int .i64 (m : Int), .bool false]) := by
  obtain ⟨t, m, ok, rfl, ⟨rfl, h1, rfl, rfl⟩ | ⟨rfl, h1⟩⟩ := h
  · exact absurd hn h1
  · exact ⟨t.kind, t.n, t.line, ⟨t.s.toArray⟩, m, rfl⟩
theorem infoT8 : (Tryd.prog.info? 31).map (fun i => (i.zero, i.size, i.bytes)) = some (some (.agg #[.int .i64 0, .string ⟨#[]⟩, .int .i64 0, .int .i64 0]), 4, 40) := by kernel_rfl
theorem base_more2 {a : Nat} {W w2 : World} (h : a ≤ W.heap.size) (hb : Below W.heap.size W w2) (o : Obj) : a ≤ (w2.alloc o).heap.size := by
  have := hb.size
  simp
  omega
set_option maxHeartbeats 4000000 in
set_option maxRecDepth 100000 in
theorem rAll (s : ByteArray) (w : World) (hsm : s.size ≤ maxLen) :
    Calls Tryd.prog 9 #[.string s] w fun e w' => (∃ v, e = .returned (.tuple #[v, .int .i64 (Lx.allP s.data.toList).line, .int .i64 (Lx.allP s.data.toList).e]) ∧ OwnT 31 w' w.heap.size v (Lx.allP s.data.toList).l) ∧ Below w.heap.size w w' := by
  have hlen : s.data.toList.length = s.size := by simp
  obtain ⟨P, hP⟩ : ∃ P, Lx.allP s.data.toList = P := ⟨_, rfl⟩
  rw [hP]
  by_cases hs : 8192 < s.size
  · rw [small_all w 0 0 s hs] at hP
    subst hP
    have hs' : 8192 < (s.size : Int) := by omega
    go_enter Tryd.func9, Tryd.ntmps9
    go_wp2
    go_ret3
    exact ⟨⟨_, rfl, OwnT.nil _ _ _⟩, Below.refl _ _⟩
  · have hs1 : s.size ≤ 8192 := by omega
    have hs' : ¬ (8192 < (s.size : Int)) := by omega
    obtain ⟨R, hR⟩ : ∃ R, Lx.lexF s.data.toList.length s.data.toList 1 = R := ⟨_, rfl⟩
    have HPR : Hid (Lx.ansOf R = P) := by
      show _ = _
      rw [← hP, ← hR]
      unfold Lx.allP
      rw [if_neg (by rw [hlen]; exact hs)]
    have HST0 : Hid (Rst s R 0 [] 1) := ⟨s.data.toList.length, by omega, by simp, by omega, by rw [Lx.more_nil]; exact hR⟩
    clear hR hP hlen hs hsm
    go_enter Tryd.func9, Tryd.ntmps9
    go_wp2
    go_loopg [5, 6, 7] s.size (fun gk v ln p wx => ∃ (pos line : Nat) (acc : List Lx.Tok), ln = .int .i64 (line : Int) ∧ p = .int .i64 (pos : Int) ∧ line ≤ 8193 ∧ OwnT 31 wx w.heap.size v acc ∧ Below w.heap.size w wx ∧ Hid (Rst s R pos acc line) ∧ s.size ≤ pos + gk ∧ pos ≤ s.size)
    case atStart => exact ⟨0, 1, [], rfl, rfl, by omega, OwnT.nil _ _ _, Below.refl _ _, HST0, by omega, by omega⟩
    case round =>
      obtain ⟨pos, line, acc, rfl, rfl, hlb, hown, hbw, hst, hfu, hps⟩ := hrel
      clear HST0
      obtain ⟨vp, vc, rfl⟩ := hown.form
      have HO : Hid (OwnT 31 wr w.heap.size (.slice vp acc.length vc) acc) := hown
      have HBW : Hid (Below w.heap.size w wr) := hbw
      have hszW : w.heap.size ≤ wr.heap.size := hbw.size
      obtain ⟨f, hf, hal, hl1, hq⟩ := hst.out
      have hlbi : (line : Int) ≤ 8193 := by omega
      have hposb : (pos : Int) ≤ 8192 := by omega
      have hal6 : acc.length ≤ 1000000 := by omega
      clear hown hbw hst
      by_cases hlt : pos < s.size
      · obtain ⟨g', rfl⟩ : ∃ g', gk = g' + 1 := ⟨gk - 1, by omega⟩
        obtain ⟨f', rfl⟩ : ∃ f', f = f' + 1 := ⟨f - 1, by omega⟩
        have hlti : (pos : Int) < (s.size : Int) := by omega
        have hcons := drop_at' s pos hlt
        have hbyte := getD_at s pos hlt
        rw [hbyte] at hcons
        obtain ⟨x, hxd⟩ : ∃ x, s[pos]'hlt = x := ⟨_, rfl⟩
        rw [hxd] at hcons
        have hgx : (s.data.toList.getD pos 0).toNat = x.toNat := by rw [hbyte, hxd]
        rw [hcons] at hq
        have HLT : Hid (pos < s.size) := hlt
        have HFU : Hid (s.size ≤ pos + (g' + 1)) := hfu
        by_cases hx10 : x.toNat = 10
        · rw [lex_line f' x _ _ hx10] at hq
          obtain ⟨l2, hl2⟩ : ∃ l, line + 1 = l := ⟨_, rfl⟩
          have hl2i : (line : Int) + 1 = (l2 : Int) := by omega
          rw [hl2i] at hq
          have HS : Hid (Rst s R (pos + 1) acc l2) := ⟨f', by omega, by omega, by omega, hq⟩
          have hl2c : l2 ≤ 8193 := by omega
          have hc10 : ((x.toNat : Int) == 10) = true := by simp; omega
          clear hcons hbyte hq hf hal hl1 hl2 hx10 hfu hgx
          go_wp2
          go_roundg g'
          case measure => omega
          case rel => exact ⟨pos + 1, l2, acc, by first | rfl | rw [hl2i], by go_num, hl2c, HO.out, HBW.out, HS, by have := HFU.out; omega, HLT.out⟩
        · have hc10 : ((x.toNat : Int) == 10) = false := by simp; omega
          cases hb : Lx.bt Lx.blank x with
          | true =>
            rw [lex_blank f' x _ _ hx10 hb] at hq
            have HS : Hid (Rst s R (pos + 1) acc line) := ⟨f', by omega, by omega, by omega, hq⟩
            have hb3 : x.toNat = 32 ∨ (x.toNat ≠ 32 ∧ x.toNat = 9) ∨ (x.toNat ≠ 32 ∧ x.toNat ≠ 9 ∧ x.toNat = 13) := by
              have := of_decide_eq_true hb
              omega
            clear hcons hbyte hq hf hal hl1 hx10 hfu hb hgx
            rcases hb3 with h | h | h
            · have c32 : ((x.toNat : Int) == 32) = true := by simp; omega
              clear h
              go_wp2
              go_roundg g'
              case measure => omega
              case rel => exact ⟨pos + 1, line, acc, rfl, by go_num, hlb, HO.out, HBW.out, HS, by have := HFU.out; omega, HLT.out⟩
            · have c32 : ((x.toNat : Int) == 32) = false := by simp; omega
              have c9 : ((x.toNat : Int) == 9) = true := by simp; omega
              clear h
              go_wp2
              go_roundg g'
              case measure => omega
              case rel => exact ⟨pos + 1, line, acc, rfl, by go_num, hlb, HO.out, HBW.out, HS, by have := HFU.out; omega, HLT.out⟩
            · have c32 : ((x.toNat : Int) == 32) = false := by simp; omega
              have c9 : ((x.toNat : Int) == 9) = false := by simp; omega
              have c13 : ((x.toNat : Int) == 13) = true := by simp; omega
              clear h
              go_wp2
              go_roundg g'
              case measure => omega
              case rel => exact ⟨pos + 1, line, acc, rfl, by go_num, hlb, HO.out, HBW.out, HS, by have := HFU.out; omega, HLT.out⟩
          | false =>
            have hnb : x.toNat ≠ 32 ∧ x.toNat ≠ 9 ∧ x.toNat ≠ 13 := by
              have := of_decide_eq_false hb
              omega
            have c32 : ((x.toNat : Int) == 32) = false := by simp; omega
            have c9 : ((x.toNat : Int) == 9) = false := by simp; omega
            have c13 : ((x.toNat : Int) == 13) = false := by simp; omega
            by_cases hx35 : x.toNat = 35
            · rw [lex_rem f' x _ _ hx35] at hq
              have hc35 : ((x.toNat : Int) == 35) = true := by simp; omega
              obtain ⟨E, hE⟩ : ∃ E, pos + 1 + (Lx.front Lx.inLine (s.data.toList.drop (pos + 1))).length = E := ⟨_, rfl⟩
              have hle := Lx.front_le Lx.inLine (s.data.toList.drop (pos + 1))
              rw [List.length_drop, show s.data.toList.length = s.size from by simp] at hle
              have HS : Hid (Rst s R E acc line) := by
                refine ⟨f', by omega, by omega, by omega, ?_⟩
                rw [List.drop_drop, hE] at hq
                exact hq
              have HE : Hid (E ≤ s.size ∧ s.size ≤ E + g') := by constructor <;> omega
              have HF : Hid (Fr s pos E) := by
                show _ + _ = _
                rw [hcons, Lx.front_cons, if_pos (by simp [Lx.bt, Lx.inLine]; omega), List.length_cons]
                omega
              clear hcons hbyte hq hf hal hl1 hx10 hx35 hfu hb hnb hE hle hgx
              go_wp2
              go_loopg [7] (s.size - pos) (fun gk2 p wx => wx = wr ∧ ∃ q : Nat, p = .int .i64 (q : Int) ∧ Hid (Fr s q E) ∧ s.size = q + gk2)
              case atStart => exact ⟨rfl, pos, rfl, HF, by have := HLT.out; omega⟩
              case round =>
                obtain ⟨rfl, q, rfl, hF, hg⟩ := hrel
                have hqb : (q : Int) ≤ 8192 := by omega
                by_cases hq : q < s.size
                · obtain ⟨g2, rfl⟩ : ∃ g, gk = g + 1 := ⟨gk - 1, by omega⟩
                  have hqi : (q : Int) < (s.size : Int) := by omega
                  have hyb := getD_at s q hq
                  have hon := fun h => Fr.on hF.out hq h
                  have hstop := fun h => Fr.stop hF.out hq h
                  rw [hyb] at hon hstop
                  obtain ⟨y, hyd⟩ : ∃ y, s[q]'hq = y := ⟨_, rfl⟩
                  rw [hyd] at hon hstop
                  have HG : Hid (s.size = q + (g2 + 1)) := hg
                  clear hyb hg
                  by_cases hy : y.toNat = 10
                  · have hy10 : ((y.toNat : Int) != 10) = false := by simp; omega
                    have hqE : Hid (q = E) := hstop hy
                    clear hon hstop hy HF hF
                    go_wp2
                    go_roundg g'
                    case measure => omega
                    case rel => exact ⟨q, line, acc, rfl, rfl, hlb, HO.out, HBW.out, by rw [hqE.out]; exact HS, by rw [hqE.out]; exact HE.out.2, by rw [hqE.out]; exact HE.out.1⟩
                  · have hy10 : ((y.toNat : Int) != 10) = true := by simp; omega
                    have HF2 : Hid (Fr s (q + 1) E) := hon hy
                    clear hon hstop hy HF hF
                    go_wp2
                    go_roundg g2
                    case measure => omega
                    case rel => exact ⟨rfl, q + 1, by go_num, HF2, by have := HG.out; omega⟩
                · have hqi : ¬ ((q : Int) < (s.size : Int)) := by omega
                  have hqE : Hid (q = E) := Fr.end_ hF.out hq
                  clear HF hF hg
                  go_wp2
                  go_roundg g'
                  case measure => omega
                  case rel => exact ⟨q, line, acc, rfl, rfl, hlb, HO.out, HBW.out, by rw [hqE.out]; exact HS, by rw [hqE.out]; exact HE.out.2, by rw [hqE.out]; exact HE.out.1⟩
            · have hc35 : ((x.toNat : Int) == 35) = false := by simp; omega
              have cT := fun u => rOne s pos u hs1 hlt
              by_cases hn0 : (Lx.one (s.data.toList.drop pos)).2 = 0
              · rw [lex_bad f' x _ _ hx10 hb hx35 (by rw [← hcons]; exact hn0)] at hq
                have hRR : P = ⟨[], line, 6⟩ := by rw [← HPR.out, ← hq]; rfl
                subst hRR
                clear hcons hbyte hq hf hal hl1 hx10 hx35 hfu hb hnb hgx HO HFU
                go_wp2_with (go_at_call 17; go_must (refine (cT _).mono ?_; rintro e w2 ⟨hP1, hb2⟩; obtain ⟨tk, tn, tl, ts, m, rfl⟩ := hP1.of_bad hn0; clear hP1))
                go_ret3
                exact ⟨⟨_, rfl, OwnT.nil _ _ _⟩, (HBW.out.trans (hb2.mono hszW)).alloc (Nat.le_trans hszW hb2.size) _⟩
              · obtain ⟨T, n, hTn⟩ : ∃ T n, Lx.one (s.data.toList.drop pos) = (T, n) := ⟨_, _, rfl⟩
                rw [hTn] at hn0
                have hlow := (Lx.one_low (s.data.toList.drop pos)).1
                rw [hTn, List.length_drop, show s.data.toList.length = s.size from by simp] at hlow
                have hnn : n ≤ s.size - pos := hlow
                have hnz : n ≠ 0 := hn0
                rw [lex_tok f' x _ _ hx10 hb hx35 (by rw [← hcons, hTn]; exact hn0), ← hcons, hTn, Lx.more_more] at hq
                obtain ⟨tk, ts, tn, tl⟩ := T
                obtain ⟨p2, hp2⟩ : ∃ p2, pos + n = p2 := ⟨_, rfl⟩
                have HS : Hid (Rst s R p2 (acc ++ [⟨tk, ts, tn, (line : Int)⟩]) line) := by
                  refine ⟨f', by omega, by rw [List.length_append, List.length_singleton]; omega, by omega, ?_⟩
                  rw [← hq, List.drop_drop, ← hp2]
                  rfl
                have HP2 : Hid (p2 ≤ s.size ∧ s.size ≤ p2 + g') := by constructor <;> omega
                have hp2b : (p2 : Int) ≤ 8192 := by omega
                clear hcons hbyte hq hf hal hl1 hx10 hx35 hfu hb hnb hgx hlow hnn HFU
                go_wp2_with (first
                  | (go_at_call 17; go_must (refine (cT _).mono ?_; rintro e w2 ⟨hP1, hb2⟩; obtain rfl := hP1.of_good _ n hTn hnz; clear hP1; simp only [hp2, tokV]))
                  | (at_builtin; go_must (refine app_tok rfl _ _ 26 31 rfl Tryd.underlying26 infoT8 w.heap.size _ acc rfl (own_more HO hb2 (.cells #[.int .i64 tk, .string ⟨ts.toArray⟩, .int .i64 tn, .int .i64 (line : Int)] 31)) (base_more2 hszW hb2 (.cells #[.int .i64 tk, .string ⟨ts.toArray⟩, .int .i64 tn, .int .i64 (line : Int)] 31)) hal6 ⟨tk, ts, tn, (line : Int)⟩ (w2.heap.size + 1) (size_one w2 _) rfl ?_)))
                intro v' w3 HO3 HB3 HK3 hsz3
                have HB4 : Hid (Below w.heap.size w w3) := HB3.out _ _ (Nat.le_refl _) (Nat.le_refl _) ((HBW.out.trans (hb2.mono hszW)).alloc (Nat.le_trans hszW hb2.size) _)
                clear HB3 HK3 HO HBW cT hb2
                go_wp2
                go_roundg g'
                case measure => omega
                case rel => exact ⟨p2, line, _, rfl, rfl, hlb, HO3.out, HB4.out, HS, HP2.out.2, HP2.out.1⟩
      · have hlti : ¬ ((pos : Int) < (s.size : Int)) := by omega
        rw [drop_nil_of s pos hlt, lex_nil] at hq
        have hRR : P = ⟨acc, 0, 0⟩ := by
          rw [← HPR.out, ← hq]
          simp [Lx.more, Lx.ansOf]
        subst hRR
        clear hq hf hal hl1 hfu
        go_wp2
        go_ret3
        exact ⟨⟨_, rfl, HO.out⟩, HBW.out⟩
end Go.Proofs.YtihgifhkjiollaaDoor
