/- Layer 8: All. -/
import Derived.Test.YtepmncfgkmpccaaDoorLxToks
namespace Go.Proofs.YtepmncfgkmpccaaDoor
open Go.RowKit
set_option linter.unusedVariables false
set_option linter.unusedSimpArgs false

theorem infoTok : (Tryd.prog.info? 28).map (fun i => (i.zero, i.size, i.bytes)) = some (some (.agg #[.int .i64 0, .string ⟨#[]⟩, .int .i64 0, .int .i64 0]), 4, 40) := by kernel_rfl
theorem blank_no (r : Int) (h : 128 ≤ r) : Lx.blank r = false := by simp [Lx.blank]; omega
theorem small_all (w : World) (e : TypeId) (base : Nat) (s : ByteArray) (h : 8192 < s.size) : Lx.allP s.data.toList = ⟨[], 0, 5⟩ := by
  unfold Lx.allP
  rw [if_pos (by simpa using h)]
theorem front_cut (s : ByteArray) (pos : Nat) (h : pos < s.size) (hx : Lx.bt Lx.inLine (s.data.toList.getD pos 0) = true) :
    (Lx.front Lx.inLine (s.data.toList.drop pos)).length = (Lx.front Lx.inLine (s.data.toList.drop (pos + 1))).length + 1 ∧ Lx.Whole s pos (pos + (Lx.front Lx.inLine (s.data.toList.drop pos)).length) := by
  have hlen : s.data.toList.length = s.size := by simp
  refine ⟨by rw [drop_at' s pos h, Lx.front_cons, if_pos hx, List.length_cons], ?_⟩
  have hle := Lx.front_le Lx.inLine (s.data.toList.drop pos)
  rw [List.length_drop, hlen] at hle
  refine Lx.Whole.front (by omega) (fun hlt => ?_)
  have hd : (s.data.toList.drop pos).drop (Lx.front Lx.inLine (s.data.toList.drop pos)).length = s.data.toList.getD (pos + (Lx.front Lx.inLine (s.data.toList.drop pos)).length) 0 :: s.data.toList.drop (pos + (Lx.front Lx.inLine (s.data.toList.drop pos)).length + 1) := by
    rw [List.drop_drop]
    exact drop_at' s _ hlt
  have h2 := Lx.front_stop Lx.inLine _ _ _ hd
  generalize s.data.toList.getD (pos + (Lx.front Lx.inLine (s.data.toList.drop pos)).length) 0 = z at h2
  have h3 : ¬ (((z.toNat : Nat) : Int) ≠ 10) := of_decide_eq_false h2
  omega
theorem size_one (w : World) (o : Obj) : w.heap.size + 1 = (w.alloc o).heap.size := by simp
theorem base_more {a : Nat} {W w2 : World} (h : a < W.heap.size) (hb : Below W.heap.size W w2) (o : Obj) : a ≤ (w2.alloc o).heap.size := by
  have := hb.size
  simp
  omega
theorem own_more {e : TypeId} {W w2 : World} {base : Nat} {v : Value} {ts : List Lx.Tok} (h : Hid (OwnT e W base v ts)) (hb : Below W.heap.size W w2) (o : Obj) : Hid (OwnT e (w2.alloc o) base v ts) :=
  World.ownsRow.alloc (OwnT.below h.out hb (Nat.le_refl _)) o
set_option maxHeartbeats 4000000 in
set_option maxRecDepth 100000 in
theorem lexAll_any (s : ByteArray) (w : World) (hsm : s.size ≤ maxLen) :
    Calls Tryd.prog 5 #[.string s] w fun e w' => (∃ v, e = .returned (.tuple #[v, .int .i64 (Lx.allP s.data.toList).line, .int .i64 (Lx.allP s.data.toList).e]) ∧ OwnT 28 w' w.heap.size v (Lx.allP s.data.toList).l) ∧ Below w.heap.size w w' := by
  have hlen : s.data.toList.length = s.size := by simp
  obtain ⟨P, hP⟩ : ∃ P, Lx.allP s.data.toList = P := ⟨_, rfl⟩
  rw [hP]
  by_cases hs : 8192 < s.size
  · rw [small_all w 0 0 s hs] at hP
    subst hP
    have hs' : 8192 < (s.size : Int) := by omega
    go_enter Tryd.func5, Tryd.ntmps5
    go_wp2
    go_ret3
    exact ⟨⟨_, rfl, OwnT.nil _ _ _⟩, Below.refl _ _⟩
  · have hs1 : s.size ≤ 8192 := by omega
    have hs' : ¬ (8192 < (s.size : Int)) := by omega
    obtain ⟨R, hR⟩ : ∃ R, Lx.lexF s.data.toList.length s.data.toList 1 = R := ⟨_, rfl⟩
    have HPR : Hid (Lx.ansOf R = P) := by
      show _ = _
      rw [← hP, ← hR]
      unfold Lx.allP
      rw [if_neg (by rw [hlen]; exact hs)]
    have HST0 : Hid (Ast s R 0 0 [] 1) := by
      refine ⟨0, s.data.toList.length, Or.inl ⟨by omega, rfl⟩, by omega, by omega, by simp, by omega, Lx.Whole.done s 0 (by omega), ?_⟩
      rw [Lx.more_nil]
      exact hR
    clear hR hP hlen hs hsm
    go_enter Tryd.func5, Tryd.ntmps5
    go_wp2
    go_loopg [5, 6, 7] s.size (fun gk v ln nx wx => ∃ (pos next line : Nat) (acc : List Lx.Tok), ln = .int .i64 (line : Int) ∧ nx = .int .i64 (next : Int) ∧ next ≤ 8192 ∧ line ≤ 8193 ∧ OwnT 28 wx w.heap.size v acc ∧ wx.heap[w.heap.size]? = some (.stringIter s pos) ∧ Below w.heap.size w wx ∧ Hid (Ast s R pos next acc line) ∧ s.size ≤ pos + gk ∧ pos ≤ s.size)
    case atStart =>
      exact ⟨0, 0, 1, [], rfl, rfl, by omega, by omega, OwnT.nil _ _ _, World.iter_heap w s 0, below1 w _, HST0, by omega, by omega⟩
    case round =>
      obtain ⟨pos, next, line, acc, rfl, rfl, hnb, hlb, hown, hit, hbw, hst, hfu, hps⟩ := hrel
      clear HST0
      obtain ⟨vp, vc, rfl⟩ := hown.form
      by_cases hlt : pos < s.size
      · obtain ⟨g', rfl⟩ : ∃ g', gk = g' + 1 := ⟨gk - 1, by omega⟩
        have hnx : ∀ ty, (Instr.next (.pointer (some ⟨w.heap.size, 0, none⟩)) true ty).run Tryd.prog wr = _ := fun ty => Lib.run_next_any_at wr w.heap.size s pos ty hit hlt
        have hwd : 1 ≤ (Utf8.decode s pos).2 := Lib.width_pos s pos
        have hrl := Lib.rune_le s pos
        have hfit := Lx.rune_fits s pos hlt
        have hsk := fun h => Ast.skip hst.out (next := next) h
        have hhere := fun h => Ast.here hst.out h hlt
        have hrune : ((s.data.toList.getD pos 0).toNat < 128 ∧ (((Utf8.decode s pos).1 : Nat) : Int) = ((s.data.toList.getD pos 0).toNat : Int) ∧ (Utf8.decode s pos).2 = 1) ∨ (128 ≤ (s.data.toList.getD pos 0).toNat ∧ 128 ≤ (((Utf8.decode s pos).1 : Nat) : Int)) := by
          by_cases ha : (s.data.toList.getD pos 0).toNat < 128
          · rw [Lx.low_one s pos hlt ha]
            exact Or.inl ⟨ha, rfl, rfl⟩
          · exact Or.inr ⟨by omega, by have := (Lx.high_rune s pos hlt (by omega)).1; omega⟩
        have hcons := drop_at' s pos hlt
        obtain ⟨x, hx⟩ : ∃ x, s.data.toList.getD pos 0 = x := ⟨_, rfl⟩
        obtain ⟨K, hK⟩ : ∃ K, (Utf8.decode s pos).2 = K := ⟨_, rfl⟩
        obtain ⟨r, hr⟩ : ∃ r, (((Utf8.decode s pos).1 : Nat) : Int) = r := ⟨_, rfl⟩
        rw [hx] at hcons hrune hhere
        rw [hK, hr] at hnx hrune
        rw [hK] at hwd hsk hfit
        have hr0 : 0 ≤ r ∧ r ≤ 1114111 := by omega
        obtain ⟨hr0, hr1⟩ := hr0
        have hit2 := Lib.iterAt_heap wr w.heap.size s pos (pos + K) hit
        have hbw2 := Lib.below_iterAt hbw (k := w.heap.size) (Nat.le_refl _) s (pos + K)
        have hown2 := hown.iterAt hit (pos + K)
        obtain ⟨W, hWd⟩ : ∃ W, wr.iterAt w.heap.size s (pos + K) = W := ⟨_, rfl⟩
        rw [hWd] at hnx hit2 hbw2 hown2
        have HO : Hid (OwnT 28 W w.heap.size (.slice vp acc.length vc) acc) := hown2
        have HBW : Hid (Below w.heap.size w W) := hbw2
        have HIT : Hid (W.heap[w.heap.size]? = some (.stringIter s (pos + K))) := hit2
        have hszW : w.heap.size < W.heap.size := (Array.getElem?_eq_some_iff.1 hit2).1
        have HFU : Hid (s.size ≤ pos + (g' + 1)) := hfu
        have HFIT : Hid (pos + K ≤ s.size) := hfit
        have hposb : (pos : Int) ≤ 8192 := by omega
        have hlbi : (line : Int) ≤ 8193 := by omega
        clear hit hbw hown hWd hit2 hbw2 hown2 hfu hst hK hr hrl hfit
        by_cases hsk0 : pos < next
        · obtain ⟨hs1, hs2⟩ := hsk hsk0
          have HS : Hid (Ast s R (pos + K) next acc line) := hs1
          have hsk0' : (pos : Int) < (next : Int) := by omega
          clear hhere hsk hs1 hcons hrune hx
          go_wp2
          go_roundg g'
          case measure => omega
          case rel => exact ⟨pos + K, next, line, acc, rfl, rfl, hnb, hlb, HO.out, HIT.out, HBW.out, HS, by have := HFU.out; omega, hs2⟩
        · obtain ⟨f, hf, hal, hlb2, hq⟩ := hhere hsk0
          have hsk0' : ¬ (pos : Int) < (next : Int) := by omega
          have hal6 : acc.length ≤ 1000000 := by omega
          clear hhere hsk
          by_cases hx10 : x.toNat = 10
          · obtain ⟨rfl, rfl⟩ : K = 1 ∧ r = 10 := by
              rcases hrune with ⟨_, h, h1⟩ | ⟨h1, h2⟩
              · exact ⟨h1, by omega⟩
              · omega
            rw [lex_line f x _ _ hx10] at hq
            obtain ⟨l2, hl2⟩ : ∃ l, line + 1 = l := ⟨_, rfl⟩
            have hl2i : (line : Int) + 1 = (l2 : Int) := by omega
            rw [hl2i] at hq
            have HS : Hid (Ast s R (pos + 1) next acc l2) := Ast.step hlt (by omega) hf hal (by omega) hq
            have hl2b : (l2 : Int) ≤ 8194 := by omega
            have hl2c : l2 ≤ 8193 := by omega
            clear hcons hrune hx hq hf hal hl2 hx10
            go_wp2
            go_roundg g'
            case measure => omega
            case rel => exact ⟨pos + 1, next, l2, acc, by first | rfl | rw [hl2i], rfl, hnb, hl2c, HO.out, HIT.out, HBW.out, HS, by have := HFU.out; omega, HFIT.out⟩
          · have hr10 : ¬ (r = 10) := by rcases hrune with ⟨_, h, _⟩ | ⟨h1, h2⟩ <;> omega
            have hr10b : (r == 10) = false := by simpa using hr10
            have cB := fun u => isBlank_any r u
            have hbl : Lx.bt Lx.blank x = Lx.blank r := by
              rcases hrune with ⟨_, h, _⟩ | ⟨h1, h2⟩
              · rw [h]; rfl
              · rw [blank_no r h2]; exact blank_no _ (by omega)
            cases hb : Lx.blank r with
            | true =>
              rw [hb] at hbl cB
              obtain ⟨rfl, hrx⟩ : K = 1 ∧ r = (x.toNat : Int) := by
                rcases hrune with ⟨_, h, h1⟩ | ⟨h1, h2⟩
                · exact ⟨h1, h⟩
                · rw [blank_no r h2] at hb; cases hb
              rw [lex_blank f x _ _ hx10 hbl] at hq
              have HS : Hid (Ast s R (pos + 1) next acc line) := Ast.step hlt (by omega) hf hal (by omega) hq
              clear hcons hrune hx hq hf hal hx10 hbl hb hrx
              go_wp2_with (go_at_call 8; go_must (refine (cB _).mono ?_; rintro e w1 ⟨rfl, rfl⟩))
              go_roundg g'
              case measure => omega
              case rel => exact ⟨pos + 1, next, line, acc, rfl, rfl, hnb, hlb, HO.out, HIT.out, HBW.out, HS, by have := HFU.out; omega, HFIT.out⟩
            | false =>
              rw [hb] at hbl cB
              obtain ⟨ht1, ht2⟩ := extract_from s pos (by omega)
              obtain ⟨t, ht⟩ : ∃ t, s.extract pos s.size = t := ⟨_, rfl⟩
              rw [ht] at ht1 ht2
              have hpz : (pos : Int) ≤ (s.size : Int) := by omega
              by_cases hx35 : x.toNat = 35
              · obtain ⟨rfl, rfl⟩ : K = 1 ∧ r = 35 := by
                  rcases hrune with ⟨_, h, h1⟩ | ⟨h1, h2⟩
                  · exact ⟨h1, by omega⟩
                  · omega
                rw [lex_rem f x _ _ hx35] at hq
                have hin : Lx.bt Lx.inLine (s.data.toList.getD pos 0) = true := by rw [hx]; simp [Lx.bt, Lx.inLine]; omega
                obtain ⟨hfc, hwh⟩ := front_cut s pos hlt hin
                have cF := frontOf_any fits_inLine t W (by unfold maxLen; omega) inLine_const
                rw [ht2] at cF
                obtain ⟨n, hn⟩ : ∃ n, (Lx.front Lx.inLine (s.data.toList.drop pos)).length = n := ⟨_, rfl⟩
                rw [hn] at cF hfc hwh
                obtain ⟨p2, hp2⟩ : ∃ p2, pos + n = p2 := ⟨_, rfl⟩
                have HS : Hid (Ast s R (pos + 1) p2 acc line) := by
                  rw [← hp2]
                  refine Ast.to (n := n) (by omega) hf (by omega) (by omega) hwh ?_
                  rw [← hq, List.drop_drop]
                  congr 3
                  omega
                have hwz := hwh.1
                have hp2i : (pos : Int) + (n : Int) = (p2 : Int) := by omega
                have hp2b : p2 ≤ 8192 := by omega
                have hp2b' : (p2 : Int) ≤ 8192 := by omega
                have hbl35 : Lx.blank 35 = false := rfl
                clear hcons hrune hx hq hf hal hx10 hbl hb hx35 hin hfc hwh hn hp2 hwz ht1 ht2
                go_wp2_with (first
                  | (go_at_call 8; go_must (refine (cB _).mono ?_; rintro e w1 ⟨rfl, rfl⟩))
                  | (go_at_call 9; go_must (refine cF.mono ?_; rintro e w2 ⟨rfl, hb2⟩)))
                go_roundg g'
                case measure => omega
                case rel => exact ⟨pos + 1, p2, line, acc, rfl, by first | rfl | rw [hp2i], hp2b, hlb, OwnT.below HO.out hb2 (Nat.le_refl _), (hb2.block _ hszW).trans HIT.out, HBW.out.trans (hb2.mono (Nat.le_of_lt hszW)), HS, by have := HFU.out; omega, HFIT.out⟩
              · have hr35 : ¬ (r = 35) := by rcases hrune with ⟨_, h, _⟩ | ⟨h1, h2⟩ <;> omega
                have hr35b : (r == 35) = false := by simpa using hr35
                have hR0 : Rune0 t r := by
                  refine ⟨by omega, hr0, hr1, ?_⟩
                  rw [ht2, hcons]
                  show (x.toNat < 128 ∧ r = (x.toNat : Int)) ∨ (128 ≤ x.toNat ∧ 128 ≤ r)
                  rcases hrune with ⟨h, h1, _⟩ | h
                  · exact Or.inl ⟨h, h1⟩
                  · exact Or.inr h
                have cT := fun u => tokenOf_any r t u (by omega) hR0
                rw [ht2] at cT
                have hlow := Lx.one_low (s.data.toList.drop pos)
                rw [hcons] at hlow
                obtain ⟨T, n, hTn⟩ : ∃ T n, Lx.one (s.data.toList.drop pos) = (T, n) := ⟨_, _, rfl⟩
                rw [hTn] at cT
                rw [hcons] at hTn
                obtain ⟨tk, ts, tn, tl⟩ := T
                simp only [tokV] at cT
                by_cases hn0 : n = 0
                · subst hn0
                  rw [lex_bad f x _ _ hx10 hbl hx35 (by rw [hTn])] at hq
                  have hRR : P = ⟨[], line, 6⟩ := by rw [← HPR.out, ← hq]; rfl
                  subst hRR
                  clear hcons hrune hx hq hf hal hx10 hbl hb hx35 hR0 hlow hTn HO HIT HFU HFIT ht1 ht2
                  go_wp2_with (first
                    | (go_at_call 8; go_must (refine (cB _).mono ?_; rintro e w1 ⟨rfl, rfl⟩))
                    | (go_at_call 11; go_must (refine (cT _).mono ?_; rintro e w2 ⟨rfl, hb2⟩)))
                  go_ret3
                  exact ⟨⟨_, rfl, OwnT.nil _ _ _⟩, (HBW.out.trans (hb2.mono (Nat.le_of_lt hszW))).alloc (Nat.le_trans (Nat.le_of_lt hszW) hb2.size) _⟩
                · rw [lex_tok f x _ _ hx10 hbl hx35 (by rw [hTn]; exact hn0), hTn, ← hcons, Lx.more_more] at hq
                  rw [hTn, ← hcons] at hlow
                  obtain rfl : K = 1 := by
                    have hxl : x.toNat < 128 := by
                      refine hlow.2 x ?_
                      show x ∈ (s.data.toList.drop pos).take n
                      obtain ⟨m, rfl⟩ : ∃ m, n = m + 1 := ⟨n - 1, by omega⟩
                      rw [hcons, List.take_succ_cons]
                      simp
                    rcases hrune with ⟨_, _, h⟩ | ⟨h, _⟩
                    · exact h
                    · omega
                  have hl1 := hlow.1
                  have hlen : (s.data.toList.drop pos).length = s.size - pos := by rw [List.length_drop]; simp
                  rw [hlen] at hl1
                  have hl1' : n ≤ s.size - pos := hl1
                  obtain ⟨p2, hp2⟩ : ∃ p2, pos + n = p2 := ⟨_, rfl⟩
                  have HS : Hid (Ast s R (pos + 1) p2 (acc ++ [⟨tk, ts, tn, (line : Int)⟩]) line) := by
                    rw [← hp2]
                    refine Ast.to (n := n) (by omega) hf (by rw [List.length_append, List.length_singleton]; omega) (by omega) (Lx.Whole.low hlow (by omega)) ?_
                    rw [← hq, List.drop_drop]
                    rfl
                  have hp2i : (pos : Int) + (n : Int) = (p2 : Int) := by omega
                  have hp2b : p2 ≤ 8192 := by omega
                  have hp2b' : (p2 : Int) ≤ 8192 := by omega
                  have hn0' : ¬ ((n : Int) = 0) := by omega
                  have hn0b : ((n : Int) == 0) = false := by simpa using hn0'
                  clear hcons hrune hx hq hf hal hx10 hbl hb hx35 hR0 hlow hTn ht1 ht2 hl1 hl1' hlen hp2 hn0
                  go_wp2_with (first
                    | (go_at_call 8; go_must (refine (cB _).mono ?_; rintro e w1 ⟨rfl, rfl⟩))
                    | (go_at_call 11; go_must (refine (cT _).mono ?_; rintro e w2 ⟨rfl, hb2⟩))
                    | (at_builtin; go_must (refine app_tok rfl _ _ 23 28 rfl Tryd.underlying23 infoTok w.heap.size _ acc rfl (own_more HO hb2 (.cells #[.int .i64 tk, .string ⟨ts.toArray⟩, .int .i64 tn, .int .i64 (line : Int)] 28)) (base_more hszW hb2 (.cells #[.int .i64 tk, .string ⟨ts.toArray⟩, .int .i64 tn, .int .i64 (line : Int)] 28)) hal6 ⟨tk, ts, tn, (line : Int)⟩ (w2.heap.size + 1) (size_one w2 _) rfl ?_)))
                  intro v' w3 HO3 HB3 HK3 hsz3
                  have HB4 : Hid (Below w.heap.size w w3) := HB3.out _ _ (Nat.le_refl _) (Nat.le_refl _) ((HBW.out.trans (hb2.mono (Nat.le_of_lt hszW))).alloc (Nat.le_trans (Nat.le_of_lt hszW) hb2.size) _)
                  have HIT3 : Hid (w3.heap[w.heap.size]? = some (.stringIter s (pos + 1))) := kept_iter HK3.out ((Below.heap_alloc _ _ _ (Nat.lt_of_lt_of_le hszW hb2.size)).trans ((hb2.block _ hszW).trans HIT.out))
                  clear HB3 HK3 HO HIT HBW cT cB hb2
                  go_wp2
                  go_roundg g'
                  case measure => omega
                  case rel => exact ⟨pos + 1, p2, line, _, rfl, by first | rfl | rw [hp2i], hp2b, hlb, HO3.out, HIT3.out, HB4.out, HS, by have := HFU.out; omega, HFIT.out⟩
      · obtain rfl : pos = s.size := by omega
        have hnx : ∀ ty, (Instr.next (.pointer (some ⟨w.heap.size, 0, none⟩)) true ty).run Tryd.prog wr = _ := fun ty => Lib.run_next_end_at wr w.heap.size s s.size ty hit hlt
        have hRR : P = ⟨acc, 0, 0⟩ := by rw [← HPR.out, Ast.end_ hst.out]; rfl
        subst hRR
        have HBW : Hid (Below w.heap.size w wr) := hbw
        have HO : Hid (OwnT 28 wr w.heap.size (.slice vp acc.length vc) acc) := hown
        clear hst hown hit hbw hfu
        go_wp2
        go_ret3
        exact ⟨⟨_, rfl, HO.out⟩, HBW.out⟩
end Go.Proofs.YtepmncfgkmpccaaDoor
