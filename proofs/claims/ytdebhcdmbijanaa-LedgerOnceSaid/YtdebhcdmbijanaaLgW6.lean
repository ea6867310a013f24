/- The document's word that turns a posting of a ledger round, and what the statements begin with. -/
import Derived.Test.YtdebhcdmbijanaaLgW5
namespace Go.Proofs.Ytdebhcdmbijanaa
open Go.RowKit Go.BigFrame

theorem OwnL.fits {w : World} {B : Nat} {v : Value} {xs : List Lg.Ln} (h : OwnL w B v xs) {a : Option Addr} {n k : Nat} (e : v = .slice a n k) : xs.length ≤ k := by
  rcases h.2 with ⟨h1, h0⟩ | ⟨g, cap, cur, h1, _, _, h3, _⟩
  · omega
  · rw [h1] at e
    cases e
    exact h3
theorem ldgPost.mono {w w1 w' : World} {r : List Lg.Ps × Int} {e : Ending} (h : ldgPost w1 r e w') (hb : Below w.heap.size w w1) : ldgPost w r e w' := by
  obtain ⟨a, cap, h1, h2, h3, h4, h5, h6⟩ := h
  exact ⟨a, cap, h1, h2, h3, h4, h5, below_on hb (Nat.le_refl _) h6⟩
set_option maxRecDepth 100000 in
set_option maxHeartbeats 4000000 in
theorem reverseOf_any (l : List Lg.Ps) (a : Option Addr) (cap : Nat) (id as' : Int) (w : World) (hl : l.length ≤ maxLen ∧ l.length ≤ cap) (hna : a = none → l = [] ∧ cap = 0) (hf : Fit l) (hr : RowG w a l) :
    Calls Try.prog 13 #[.slice a l.length cap, .int .i64 id, .int .i64 as'] w (ldgPost w (Lg.rev l id as')) := by
  have HL : Hid (l.length ≤ maxLen ∧ l.length ≤ cap) := hl
  have HF : Hid (Fit l) := hf
  have HNA0 : Hid (a = none → l = [] ∧ cap = 0) := hna
  have R0 : Hid (RowG w a l) := hr
  obtain ⟨n, hn⟩ : ∃ n, l.length = n := ⟨_, rfl⟩
  have HN : Hid (l.length = n) := hn
  obtain ⟨c, hc⟩ : ∃ c, Lg.chk l = c := ⟨_, rfl⟩
  have HC : Hid (Lg.chk l = c) := hc
  have hlc := ledgerCheck_any l a cap w hl.1 hf hr
  rw [hn] at hlc ⊢
  rw [hc] at hlc
  clear hl hna hf hr hn hc
  by_cases c0 : c = 0
  · subst c0
    have HLO : Hid (Lg.LOk l) := (Lg.chk_ok l).1 HC.out
    have h100 : n ≤ 100 := by rw [← HN.out]; exact HLO.out.len
    go_enter Try.func13, Try.ntmps13
    go_wp2_with fail
    refine hlc.mono ?_
    rintro e w1 ⟨rfl, hb⟩
    have B1 : Hid (Below w.heap.size w w1) := hb
    have R1 : Hid (RowG w1 a l) := R0.out.below hb
    clear hb hlc
    go_wp2
    go_loop [9] (fun iv => ∃ k : Nat, k ≤ n ∧ iv = .int .i64 k ∧ noId l id k) (fun iv => n - (intOf iv).toNat)
    case atStart => exact ⟨0, Nat.zero_le _, rfl, (fun j p hj => absurd hj (Nat.not_lt_zero j))⟩
    case round =>
      obtain ⟨k, hk, rfl, hno⟩ := hrel
      have HNO : Hid (noId l id k) := hno
      clear hno
      by_cases hlt : k < n
      · have hlt' : (k : Int) < (n : Int) := by omega
        obtain ⟨b, off, id2, ls2, la, lc, hae, -, hx, c1, c2, hlc, hrl⟩ := R1.out.at (k := k) (by rw [HN.out]; exact hlt)
        subst hae
        have HX : Hid (l[k]? = some (id2, ls2)) := hx
        have HRL : Hid (RowL w1 la ls2) := hrl
        have pok := HLO.out.each (id2, ls2) (List.mem_of_getElem? hx)
        have HSX : Hid (ls2.length ≤ 6) := pok.six
        have HLI : Hid (∀ x ∈ ls2, -1099511627776 ≤ x.2 ∧ x.2 ≤ 1099511627776) := fun x hx => by have := pok.line x hx; exact ⟨this.2.2.1, this.2.2.2.1⟩
        clear hx hrl pok hlc
        by_cases hid : id2 = id
        · have hidb : (id2 == id) = true := by simpa using hid
          have HLK : Hid (Lg.look l id = some (id2, ls2)) := HNO.out.look HX.out hid
          have HE : Hid (Lg.rev l id as' = Lg.post l (as', Lg.neg ls2)) := by
            show _ = _
            unfold Lg.rev
            rw [if_pos HC.out, HLK.out]
          clear hid
          go_wp2_with fail
          refine (turned_any id2 as' ls2 la lc _ HSX.out HLI.out HRL.out).mono ?_
          rintro e w2 ⟨v, rfl, ho, hb⟩
          obtain ⟨ta, tc, hv, _, htr⟩ := ho.row
          have HFT : Hid ((Lg.neg ls2).length ≤ tc) := ho.fits hv
          have HTR : Hid (RowL w2 ta (Lg.neg ls2)) := htr
          have B2 : Hid (Below w.heap.size w w2) := below_on B1.out (Nat.le_refl _) hb
          have R2 : Hid (RowG w2 (some ⟨b, off, none⟩) l) := R1.out.below hb
          subst hv
          have HTL : Hid ((Lg.neg ls2).length ≤ maxLen) := by show _ ≤ _; rw [Lg.neg_len]; unfold maxLen; have := HSX.out; omega
          clear ho hb htr c1 c2
          go_wp2_with fail
          have hpo := postOf_any l (some ⟨b, off, none⟩) cap as' (Lg.neg ls2) ta tc w2 HL.out HNA0.out HF.out R2.out ⟨HTL.out, HFT.out⟩ HTR.out
          rw [HN.out, ← HE.out] at hpo
          refine hpo.mono ?_
          rintro e w3 h3
          have h4 := h3
          obtain ⟨ra, rc, rfl, -, -, -, -, -⟩ := h4
          have H3 : Hid (ldgPost w _ _ w3) := ldgPost.mono h3 B2.out
          clear h3 hpo
          go_wp2
          go_ret2
          exact H3.out
        · have hidb : (id2 == id) = false := by simpa using hid
          have HNX : Hid (noId l id (k + 1)) := HNO.out.next HX.out hid
          clear hid
          go_wp2
          go_round
          case rel => exact ⟨k + 1, by omega, by go_num, HNX.out⟩
          case measure => simp [intOf]; omega
      · obtain rfl : k = n := by omega
        have HLK : Hid (Lg.look l id = none) := HNO.out.none (by rw [HN.out]; exact Nat.le_refl _)
        have HE : Hid (Lg.rev l id as' = ([], 5)) := by
          show _ = _
          unfold Lg.rev
          rw [if_pos HC.out, HLK.out]
        go_wp2
        go_ret2
        exact ldgPost.bad HE.out B1.out
  · have HE : Hid (Lg.rev l id as' = ([], c)) := by
      show _ = _
      unfold Lg.rev
      rw [HC.out, if_neg c0]
    have c1 : (c != 0) = true := by simpa using c0
    clear c0
    go_enter Try.func13, Try.ntmps13
    go_wp2_with fail
    refine hlc.mono ?_
    rintro e w1 ⟨rfl, hb⟩
    have B1 : Hid (Below w.heap.size w w1) := hb
    clear hb hlc
    go_wp2
    go_ret2
    exact ldgPost.bad HE.out B1.out
end Go.Proofs.Ytdebhcdmbijanaa
