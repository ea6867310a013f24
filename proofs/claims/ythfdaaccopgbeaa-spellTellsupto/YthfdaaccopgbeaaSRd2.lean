/- The walks of package spell: what letters spell; the fair spelling. -/
import Derived.Test.YthfdaaccopgbeaaSRd
namespace Go.Proofs.Ythfdaaccopgbeaa
open Go.RowKit

set_option maxRecDepth 100000 in
theorem whole_any (n : Nat) (w : World) : Calls Try.prog 19 #[.int .i64 (n : Int)] w fun e w' => e = .returned (.bool (!Sp.odd n)) ∧ w' = w := by
  have ho : Sp.odd n = (n % 8 == 1 || n % 8 == 3 || n % 8 == 6) := rfl
  have hm : (n : Int) % 8 = ((n % 8 : Nat) : Int) := rfl
  have hn : (0 : Int) ≤ (n : Int) := by omega
  have h8 : n % 8 = 0 ∨ n % 8 = 1 ∨ n % 8 = 2 ∨ n % 8 = 3 ∨ n % 8 = 4 ∨ n % 8 = 5 ∨ n % 8 = 6 ∨ n % 8 = 7 := by omega
  rw [ho]
  clear ho
  generalize (n : Int) = z at *
  rcases h8 with h | h | h | h | h | h | h | h
  all_goals
    rw [h] at hm ⊢
    clear h
    go_enter Try.func19, Try.ntmps19
    go_wp2
    go_ret
    exact ⟨rfl, rfl⟩
theorem text_ex (l : List Nat) (N : Nat) (hN : l.length = N) (a : Option Addr) (cap : Nat) (w : World) (hr : RowB w a l) (ha : l = [] → a = none ∨ ∃ b off, a = some ⟨b, off, none⟩) :
    (convert 35 9 (.slice a N cap)).run Try.prog w = .ok (.string ⟨(l.map UInt8.ofNat).toArray⟩) w := by
  have key : ∀ b off, (∀ i : Nat, i < l.length → w.cell? ⟨b, off + i, none⟩ = some (.int .u8 ((l.getD i 0 : Nat) : Int))) → (convert 35 9 (.slice (some ⟨b, off, none⟩) N cap)).run Try.prog w = .ok (.string ⟨(l.map UInt8.ofNat).toArray⟩) w := by
    intro b off hc
    rw [run_convert_bytes_arg w 35 5 Try.underlying35 Try.underlying5 b off N cap (l.map fun (n : Nat) => (n : Int)) (by simpa using hN) (fun i hi => by
      rw [← hN] at hi
      rw [hc i hi]
      simp [List.getD, List.getElem?_map, List.getElem?_eq_getElem hi]) 9 Try.underlying9]
    unfold strOfNums
    rw [List.map_map]
    rfl
  rcases hr with rfl | ⟨b, off, rfl, _, hc⟩
  · rcases ha rfl with rfl | ⟨b, off, rfl⟩
    · rw [run_convert_bytes_nil w 35 5 Try.underlying35 Try.underlying5 N cap 9 Try.underlying9]
      rfl
    · exact key b off (fun i hi => by simp at hi)
  · exact key b off hc
theorem OwnB.row2 {w : World} {t : TypeId} {B : Nat} {v : Value} {xs : List Nat} (h : OwnB w t B v xs) : ∃ a cap, v = .slice a xs.length cap ∧ RowB w a xs ∧ (xs = [] → a = none ∨ ∃ b off, a = some ⟨b, off, none⟩) := by
  have h' := h
  obtain ⟨a, cap, rfl, hr⟩ := h'.row
  refine ⟨a, cap, rfl, hr, fun _ => ?_⟩
  rcases h.2 with ⟨e, _⟩ | ⟨g, c2, cur, e, _⟩
  · injection e with e1
    exact .inl e1
  · injection e with e1
    exact .inr ⟨g, 0, e1⟩
theorem fv_bad {s : ByteArray} {B : Nat} {w : World} {v : Value} {c : Int} (h : Sp.bad s.data.toList = true) (hv : FvIs s B w v c) : v = .slice none 0 0 ∧ c = 1 := by
  rcases hv with k | k
  · exact k.2
  · rw [k.1] at h; cases h
theorem fv_ok {s : ByteArray} {B : Nat} {w : World} {v : Value} {c : Int} (h : Sp.bad s.data.toList = false) (hv : FvIs s B w v c) : OwnB w 34 B v (Sp.keep s.data.toList) ∧ c = 0 := by
  rcases hv with k | k
  · rw [k.1] at h; cases h
  · exact k.2
theorem keep_lt (l : List UInt8) : ∀ n ∈ Sp.keep l, n < 32 := by
  intro n hn
  unfold Sp.keep at hn
  rw [List.mem_filter] at hn
  simpa using hn.2
set_option maxRecDepth 100000 in
set_option maxHeartbeats 4000000 in
theorem pRead (s : ByteArray) (w : World) (hs : s.size ≤ 140737488351240) :
    Calls Try.prog 8 #[.string s] w fun e w' => e = .returned (.tuple #[.string (Sp.rd s), .int .i64 (Sp.rc s)]) ∧ Below w.heap.size w w' := by
  have HF : Hid (∀ wx : World, Calls Try.prog 18 #[.string s] wx fun e w' => ∃ v c, e = .returned (.tuple #[v, .int .i64 c]) ∧ FvIs s wx.heap.size w' v c ∧ Below wx.heap.size wx w') := fun wx => fives_any s wx hs
  have Hrd : Hid (Sp.rd s = ⟨(Sp.rdl s.data.toList).toArray⟩) := (rfl : Sp.rd s = _)
  have Hrc : Hid (Sp.rc s = Sp.rdc s.data.toList) := (rfl : Sp.rc s = _)
  have Herr : Hid (Sp.rdc s.data.toList ≠ 0 → Sp.rd s = ⟨#[]⟩) := by intro h; rw [Hrd.out, Sp.rdl_err h]
  have Hkl : Hid ((Sp.keep s.data.toList).length ≤ s.size) := Nat.le_trans (Sp.keep_length _) (by rw [list_len]; omega)
  cases hbad : Sp.bad s.data.toList with
  | true =>
    have Hc : Hid (Sp.rdc s.data.toList = 1) := by show _ = _; unfold Sp.rdc; rw [hbad, if_pos rfl]
    have HBad : Hid (Sp.bad s.data.toList = true) := hbad
    have HE : Hid (Sp.rd s = ⟨#[]⟩ ∧ Sp.rc s = 1) := ⟨Herr.out (by rw [Hc.out]; decide), by rw [Hrc.out, Hc.out]⟩
    clear hbad Hc Hrc Hrd Herr
    go_enter Try.func8, Try.ntmps8
    go_wp2_with (go_at_call 18; refine (HF.out _).mono ?_; rintro e w1 ⟨v, c, rfl, hv, hb⟩; obtain ⟨rfl, rfl⟩ : v = .slice none 0 0 ∧ c = 1 := fv_bad HBad.out hv)
    go_ret2
    exact ⟨by rw [HE.out.1, HE.out.2]; rfl, hb⟩
  | false =>
    have HBad : Hid (Sp.bad s.data.toList = false) := hbad
    clear hbad
    obtain ⟨N, hN⟩ : ∃ N, (Sp.keep s.data.toList).length = N := ⟨_, rfl⟩
    have HN : Hid ((Sp.keep s.data.toList).length = N) := hN
    have hNs : N ≤ 140737488351240 := by rw [← hN]; exact Nat.le_trans Hkl.out hs
    have Hsz : Hid (Sp.sz s.data.toList = 5 * N / 8) := by show _ = _; unfold Sp.sz; rw [hN]
    have Hr1 : Hid (Sp.odd N = true → Sp.rdc s.data.toList = 1) := by intro h; unfold Sp.rdc; rw [HBad.out, if_neg (by decide), hN, h, if_pos rfl]
    have Hr2 : Hid (Sp.odd N = false → 120 < 5 * N / 8 → Sp.rdc s.data.toList = 2) := by intro h h2; unfold Sp.rdc; rw [HBad.out, if_neg (by decide), hN, h, if_neg (by decide), Hsz.out, if_pos h2]
    clear hN Hkl
    have hNz : (N : Int) ≤ 140737488351240 := by omega
    cases hodd : Sp.odd N with
    | true =>
      have HE : Hid (Sp.rd s = ⟨#[]⟩ ∧ Sp.rc s = 1) := ⟨Herr.out (by rw [Hr1.out hodd]; decide), by rw [Hrc.out, Hr1.out hodd]⟩
      clear Hrc Hrd Herr Hr1 Hr2 Hsz
      go_enter Try.func8, Try.ntmps8
      go_wp2_with (first
        | (go_at_call 18; refine (HF.out _).mono ?_; rintro e w1 ⟨v, c, rfl, hv, hb⟩; obtain ⟨hown, rfl⟩ : OwnB w1 34 w.heap.size v (Sp.keep s.data.toList) ∧ c = 0 := fv_ok HBad.out hv; obtain ⟨ra, rc, rfl, hrow⟩ := hown.row; rw [HN.out]; clear hv hown hrow)
        | (go_at_call 19; refine (whole_any N _).mono ?_; rintro e w2 ⟨rfl, rfl⟩; rw [hodd]))
      go_ret2
      exact ⟨by rw [HE.out.1, HE.out.2]; rfl, hb⟩
    | false =>
      by_cases h120 : 120 < 5 * N / 8
      · have HE : Hid (Sp.rd s = ⟨#[]⟩ ∧ Sp.rc s = 2) := ⟨Herr.out (by rw [Hr2.out hodd h120]; decide), by rw [Hrc.out, Hr2.out hodd h120]⟩
        clear Hrc Hrd Herr Hr1 Hr2 Hsz
        have h120z : (120 : Int) < (N : Int) * 5 / 8 := by omega
        clear h120
        go_enter Try.func8, Try.ntmps8
        go_wp2_with (first
          | (go_at_call 18; refine (HF.out _).mono ?_; rintro e w1 ⟨v, c, rfl, hv, hb⟩; obtain ⟨hown, rfl⟩ : OwnB w1 34 w.heap.size v (Sp.keep s.data.toList) ∧ c = 0 := fv_ok HBad.out hv; obtain ⟨ra, rc, rfl, hrow⟩ := hown.row; rw [HN.out]; clear hv hown hrow)
          | (go_at_call 19; refine (whole_any N _).mono ?_; rintro e w2 ⟨rfl, rfl⟩; rw [hodd]))
        go_ret2
        exact ⟨by rw [HE.out.1, HE.out.2]; rfl, hb⟩
      · have h120z : ¬ (120 : Int) < (N : Int) * 5 / 8 := by omega
        have hN2 : N ≤ 200 := by omega
        have HK : Hid (∀ l x m, Sp.Grp 5 8 (Sp.keep s.data.toList) l x m → m < 8 → (x ≠ 0 → Sp.rdc s.data.toList = 1) ∧ (x = 0 → Sp.rdc s.data.toList = 0 ∧ Sp.rdl s.data.toList = l.map UInt8.ofNat)) := fun l x m hg hm => Sp.rd_of rfl HBad.out (by rw [HN.out]; exact hodd) (by rw [Hsz.out]; exact h120) hg hm
        have HNz : (N : Int) ≤ 200 := by omega
        clear h120 Hr1 Hr2 Hsz hs
        go_enter Try.func8, Try.ntmps8
        go_wp2_with (first
          | (go_at_call 18; refine (HF.out _).mono ?_; rintro e w1 ⟨v, c, rfl, hv, hb⟩; obtain ⟨hown, rfl⟩ : OwnB w1 34 w.heap.size v (Sp.keep s.data.toList) ∧ c = 0 := fv_ok HBad.out hv; obtain ⟨ra, rc, rfl, hrow⟩ := hown.row; have HRW : Hid (RowB w1 ra (Sp.keep s.data.toList)) := hrow; rw [HN.out]; clear hv hown hrow)
          | (go_at_call 19; refine (whole_any N _).mono ?_; rintro e w2 ⟨rfl, rfl⟩; rw [hodd])
          | (go_at_call 20; refine (reg58_any (Sp.keep s.data.toList) N HN.out _ _ _ (keep_lt _) hN2 HRW.out).mono ?_; rintro e w3 ⟨v3, fs, x, m, rfl, hg, hm, hown3, hb3⟩; obtain ⟨ra3, rc3, rfl, hrow3, hnil3⟩ := hown3.row2; have HG := HK.out fs x m hg hm; have hcv := text_ex fs _ rfl ra3 rc3 w3 hrow3 hnil3; clear hown3 hrow3 hnil3 hg; by_cases hx : x = 0))
        · subst hx
          have HE : Hid (Sp.rd s = ⟨(fs.map UInt8.ofNat).toArray⟩ ∧ Sp.rc s = 0) := ⟨by rw [Hrd.out, (HG.2 rfl).2], by rw [Hrc.out, (HG.2 rfl).1]⟩
          clear HG
          go_wp2
          go_ret2
          exact ⟨by rw [HE.out.1, HE.out.2]; rfl, hb.trans (hb3.mono hb.size)⟩
        · have hxz : ¬ ((x : Nat) : Int) = 0 := by omega
          have e1 := HG.1 hx
          have HE : Hid (Sp.rd s = ⟨#[]⟩ ∧ Sp.rc s = 1) := ⟨Herr.out (by rw [e1]; decide), by rw [Hrc.out, e1]⟩
          clear HG e1
          go_wp2
          go_ret2
          exact ⟨by rw [HE.out.1, HE.out.2]; rfl, hb.trans (hb3.mono hb.size)⟩
namespace Sp
def frc (s : ByteArray) : Int := rc s
def frd (s : ByteArray) : ByteArray := if rc s = 0 then wr (rd s) else ⟨#[]⟩
theorem rd_size (s : ByteArray) : (rd s).size ≤ 120 := by
  have e : (rd s).size = (rdl s.data.toList).length := by unfold rd; simp [ByteArray.size]
  rw [e]
  by_cases h : rdc s.data.toList = 0
  · obtain ⟨h1, h2⟩ := rdc_zero h
    omega
  · rw [rdl_err h]; simp
theorem rd_list (s : ByteArray) : (rd s).data.toList = rdl s.data.toList := by unfold rd; simp
theorem wr_list (s : ByteArray) : (wr s).data.toList = wrl s.data.toList := by unfold wr; simp
theorem wc_rd (s : ByteArray) : wc (rd s) = 0 := by
  unfold wc
  rw [wrc_zero, rd_list]
  have := rd_size s
  have e : (rd s).size = (rdl s.data.toList).length := by unfold rd; simp [ByteArray.size]
  omega
end Sp
set_option maxRecDepth 100000 in
set_option maxHeartbeats 4000000 in
theorem pFair (s : ByteArray) (w : World) (hs : s.size ≤ 140737488351240) :
    Calls Try.prog 9 #[.string s] w fun e w' => e = .returned (.tuple #[.string (Sp.frd s), .int .i64 (Sp.rc s)]) ∧ Below w.heap.size w w' := by
  have HR : Hid (∀ wx : World, Calls Try.prog 8 #[.string s] wx fun e w' => e = .returned (.tuple #[.string (Sp.rd s), .int .i64 (Sp.rc s)]) ∧ Below wx.heap.size wx w') := fun wx => pRead s wx hs
  have HW : Hid (∀ wx : World, Calls Try.prog 7 #[.string (Sp.rd s)] wx fun e w' => e = .returned (.tuple #[.string (Sp.wr (Sp.rd s)), .int .i64 0]) ∧ Below wx.heap.size wx w') := fun wx => by
    have e := pWrite (Sp.rd s) wx (by have := Sp.rd_size s; omega)
    rw [Sp.wc_rd] at e
    exact e
  have HFr : Hid (Sp.frd s = if Sp.rc s = 0 then Sp.wr (Sp.rd s) else ⟨#[]⟩) := (rfl : Sp.frd s = _)
  clear hs
  by_cases h0 : Sp.rc s = 0
  · rw [h0, if_pos rfl] at HFr
    rw [h0] at HR ⊢
    rw [HFr.out]
    clear HFr h0
    generalize Sp.wr (Sp.rd s) = u at *
    generalize Sp.rd s = t at *
    go_enter Try.func9, Try.ntmps9
    go_wp2_with (first
      | (go_at_call 8; refine (HR.out _).mono ?_; rintro e w1 ⟨rfl, hb⟩)
      | (go_at_call 7; refine (HW.out _).mono ?_; rintro e w2 ⟨rfl, hb2⟩))
    go_ret2
    exact ⟨rfl, hb.trans (hb2.mono hb.size)⟩
  · rw [if_neg h0] at HFr
    rw [HFr.out]
    clear HFr HW
    generalize Sp.rc s = c at *
    generalize Sp.rd s = t at *
    go_enter Try.func9, Try.ntmps9
    go_wp2_with (go_at_call 8; refine (HR.out _).mono ?_; rintro e w1 ⟨rfl, hb⟩)
    go_ret2
    exact ⟨rfl, hb⟩
end Go.Proofs.Ythfdaaccopgbeaa
