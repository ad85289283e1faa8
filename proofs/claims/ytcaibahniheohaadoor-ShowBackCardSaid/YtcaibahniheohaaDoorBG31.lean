/- Several texts in one: ShowProg, ShowText, ShowAlive, ImageHelp. -/
import Derived.Test.YtcaibahniheohaaDoorBG30
import Derived.Test.YtcaibahniheohaaDoorBG07
import Derived.Test.YtcaibahniheohaaDoorBG03
import Derived.Test.YtcaibahniheohaaDoorRows
import Derived.Test.YtcaibahniheohaaDoorBG00

/- What a program is put together of. -/
namespace Go.Proofs.YtcaibahniheohaaDoor.Words
set_option maxRecDepth 100000
open Go.RowKit Go.Shelf Go.Lib
set_option linter.unusedVariables false
set_option linter.unusedSimpArgs false
set_option maxHeartbeats 8000000 in
theorem partsOfProg_any (A D : Option Addr) (c d : Nat) (p : Prog) (w : World) (hP : ProgV w w.heap.size (.slice A p.code.length c) (.slice D p.data.length d) p) (hf : p.Fits) (h5 : p.data.length ≤ 1000) (h6 : p.code.length ≤ 1000) :
    Calls Tryd.prog 91 #[.agg #[.slice A p.code.length c, .int .i64 p.size, .slice D p.data.length d]] w fun e w' => ∃ v, e = .returned v ∧ w'.ownsRow w.heap.size 20 1 v (progParts p).length (partVals (progParts p)) ∧ Below w.heap.size w w' := by
  obtain ⟨i0, hi, hz0, hz1, hz2⟩ := info_parts (show (Tryd.prog.info? 20).map (fun i => (i.zero, i.size, i.bytes)) = some (some .nilIface, 1, 16) by kernel_rfl)
  have HI := Lib.hid hi
  have HZ0 := Lib.hid hz0
  have HZ1 := Lib.hid hz1
  have HZ2 := Lib.hid hz2
  clear hi hz0 hz1 hz2
  obtain ⟨u1, u2⟩ := hP.code.cap
  obtain ⟨u3, u4⟩ := hP.data.cap
  have hd := hf.2.2
  have HDI := Lib.hid (fun k => data_in hd k)
  have H5 := Lib.hid h5
  have H6 := Lib.hid h6
  have HPV := Lib.hid (hP.alloc (Nat.le_refl _) (.cells #[.slice A p.code.length c, .int .i64 p.size, .slice D p.data.length d] 26))
  have hbx := Box.new w [.slice A p.code.length c, .int .i64 p.size, .slice D p.data.length d] 26
  change Box (w.alloc (.cells #[.slice A p.code.length c, .int .i64 p.size, .slice D p.data.length d] 26)) w.heap.size _ at hbx
  have HBX := Lib.hid hbx
  have HBW := Lib.hid ((Below.refl w.heap.size w).alloc (Nat.le_refl _) (.cells #[.slice A p.code.length c, .int .i64 p.size, .slice D p.data.length d] 26))
  have hws : (w.alloc (.cells #[.slice A p.code.length c, .int .i64 p.size, .slice D p.data.length d] 26)).heap.size = w.heap.size + 1 := by simp
  have HWS := Lib.hid hws
  have hl := own_lit (w.alloc (.cells #[.slice A p.code.length c, .int .i64 p.size, .slice D p.data.length d] 26)) [.iface 9 (.string ⟨#[115, 105, 122, 101, 32]⟩), .iface 3 (.int .i64 p.size), .iface 9 (.string ⟨#[10]⟩)] 20 (by simp)
  rw [hws] at hl
  have HL := Lib.hid hl
  clear hP hd hf hl hbx hws
  go_enter Tryd.func91, Tryd.ntmps91
  go_wp2_with fail
  generalize (w.alloc (.cells #[.slice A p.code.length c, .int .i64 p.size, .slice D p.data.length d] 26)) = W at *
  have HB2 : Hid (Below (w.heap.size + 1) W (W.alloc (.cells #[.iface 9 (.string ⟨#[115, 105, 122, 101, 32]⟩), .iface 3 (.int .i64 p.size), .iface 9 (.string ⟨#[10]⟩)] 20))) := Lib.hid ((Below.refl _ W).alloc (by rw [HWS.out]; exact Nat.le_refl _) _)
  change Hid (World.ownsRow (W.alloc (.cells #[.iface 9 (.string ⟨#[115, 105, 122, 101, 32]⟩), .iface 3 (.int .i64 p.size), .iface 9 (.string ⟨#[10]⟩)] 20)) (w.heap.size + 1) 20 1 (.slice (some ⟨w.heap.size + 1, 0, none⟩) 3 3) 3 (partVals (headP p))) at HL
  generalize (W.alloc (.cells #[.iface 9 (.string ⟨#[115, 105, 122, 101, 32]⟩), .iface 3 (.int .i64 p.size), .iface 9 (.string ⟨#[10]⟩)] 20)) = X at *
  have KB0 := Lib.hid (fun (x : World) (h : Below (w.heap.size + 1) W x) => HBX.out.below h (Nat.lt_succ_self _))
  have KP0 := Lib.hid (fun (x : World) (h : Below (w.heap.size + 1) W x) => HPV.out.below (h.mono (Nat.le_succ _)))
  go_loopw [3, 4] (fun v q wr => ∃ m : Nat, m ≤ p.data.length + 15 ∧ m % 16 = 0 ∧ q = .int .i64 m ∧ wr.ownsRow (w.heap.size + 1) 20 1 v (prtD p (min m p.data.length)).length (partVals (prtD p (min m p.data.length))) ∧ Below (w.heap.size + 1) W wr) (fun _ q _ => p.data.length + 16 - (intOf q).toNat)
  case atStart =>
    refine ⟨0, Nat.zero_le _, rfl, rfl, ?_, HB2.out⟩
    rw [Nat.zero_min, prtD_zero]
    exact HL.out
  case round =>
    obtain ⟨m, hm, hm16, rfl, ho, hb⟩ := hrel
    have HO := Lib.hid ho
    have HB := Lib.hid hb
    have HM := Lib.hid hm
    have HM16 := Lib.hid hm16
    have c2 := (KB0.out _ hb).cell (k := 2) rfl
    obtain ⟨A3, cc, rfl⟩ := (Row.of_own ho).form
    generalize hpl : (prtD p (min m p.data.length)).length = pl at *
    have hpn : pl ≤ 3003 := by have := prtD_len p (min m p.data.length); omega
    have m0 : (0 : Int) ≤ m := by omega
    have mN : (m : Int) ≤ 1015 := by omega
    have H55 := h5
    by_cases hlt : m < p.data.length
    · have hpv := (KP0.out _ hb).data
      obtain ⟨g, o, rfl, hg, _⟩ := hpv.at_ (by omega)
      obtain ⟨e, he⟩ : ∃ e, e = min (m + 16) p.data.length := ⟨_, rfl⟩
      have hmin : min ((m : Int) + 16) (p.data.length : Int) = (e : Int) := by omega
      have e0 : (m : Int) ≤ e := by omega
      have e1 : (e : Int) ≤ p.data.length := by omega
      have e2 : (p.data.length : Int) ≤ d := by omega
      have hlt' : (m : Int) < p.data.length := by omega
      have nd : decide ((m : Int) < (p.data.length : Int)) = true := decide_eq_true hlt'
      have HE := Lib.hid he
      have HPVr := Lib.hid hpv
      have HLT := Lib.hid hlt
      clear hpv ho hb hm hm16 he hlt hg
      go_wp2_with fail
      clear c2 nd
      have hmm : min m p.data.length = m := by have := HLT.out; omega
      rw [hmm] at HO hpl
      have HPL := Lib.hid hpl
      clear hmm hpl hmin
      obtain ⟨L, hL⟩ : ∃ L, L = e - m := ⟨_, rfl⟩
      have hL16 : L ≤ 16 := by have := HE.out; omega
      have HLL := Lib.hid hL
      rw [← hL]
      clear hL
      go_loopw [3, 5, 34] (fun v ah q wr2 => ∃ j : Nat, j ≤ L ∧ ah = .string (txt (if j = 0 then [98, 121, 116, 101, 32] else [44, 32])) ∧ q = .int .i64 j ∧ wr2.ownsRow (w.heap.size + 1) 20 1 v (pl + 2 * j) (partVals (prtL p m j)) ∧ Below (w.heap.size + 1) W wr2) (fun _ _ q _ => L - (intOf q).toNat)
      case atStart =>
        refine ⟨0, Nat.zero_le _, rfl, rfl, ?_, HB.out⟩
        rw [prtL_zero]
        exact HO.out
      case round =>
        obtain ⟨j, hj, rfl, rfl, ho2, hb2⟩ := hrel
        have HO2 := Lib.hid ho2
        have HB3 := Lib.hid hb2
        obtain ⟨A4, cc4, rfl⟩ := (Row.of_own ho2).form
        have hbs : w.heap.size + 1 ≤ wr.heap.size := by have := hb2.size; rw [HWS.out] at this; exact this
        have HBS := Lib.hid hbs
        by_cases hjl : j < L
        · have hmj : m + j < p.data.length := by have := HLL.out; have := HE.out; omega
          have hcc := (KP0.out _ hb2).data.num (m + j) hmj
          rw [← Nat.add_assoc] at hcc
          obtain ⟨b0, b1⟩ := HDI.out (m + j)
          obtain ⟨b, hbb⟩ : ∃ b, b = p.data.getD (m + j) 0 := ⟨_, rfl⟩
          rw [← hbb] at hcc b0 b1
          have hah : (if j = 0 then [98, 121, 116, 101, 32] else [44, 32] : List UInt8) = aheadS (m + j) := by
            unfold aheadS
            have := HM16.out
            by_cases h0 : j = 0
            · rw [if_pos h0, if_pos (by omega)]
            · rw [if_neg h0, if_neg (by omega)]
          rw [hah]
          have HDP : Hid (partVals (prtL p m j) ++ [.iface 9 (.string (txt (aheadS (m + j)))), .iface 3 (.int .i64 b)] = partVals (prtL p m (j + 1))) := Lib.hid (by rw [prtL_succ, hbb]; simp [partVals, datP]; exact ⟨rfl, rfl⟩)
          generalize txt (aheadS (m + j)) = AH at *
          have HJL := Lib.hid hjl
          have j0 : (0 : Int) ≤ j := by omega
          have j1 : (j : Int) < L := by omega
          have hLe : e - m = L := HLL.out.symm
          clear hbb hah hmj ho2 hb2 hj hjl hbs
          go_wp2_with (at_builtin; refine wpList_append_row _ rfl (.tmp 38) (.tmp 44) 124 rfl (w.heap.size + 1) 20 i0 _ 1 16 Tryd.underlying124 HI.out HZ0.out HZ1.out HZ2.out rfl (by omega) (.slice A4 (pl + 2 * j) cc4) (pl + 2 * j) _ rfl (HO2.out.alloc _) _ (.slice (some ⟨wr.heap.size, 0, none⟩) 2 2) 2 [.iface 9 (.string AH), .iface 3 (.int .i64 b)] rfl (Row.of_own (own_lit wr [.iface 9 (.string AH), .iface 3 (.int .i64 b)] 20 (by simp))) (by simp [Value.oneCell']) (by unfold maxLen; omega) (by omega) (by have := HBS.out; simp; omega) ?_; intro v3 y3 hO5 hg3; have HO5 := Lib.hid hO5; have HG3 := Lib.hid hg3; clear hO5 hg3)
          go_roundw
          case rel =>
            refine ⟨j + 1, HJL.out, rfl, by go_num, ?_, ?_⟩
            · have := HO5.out
              rw [HDP.out] at this
              exact this
            · exact (HB3.out.alloc HBS.out _).grown HG3.out (by have := HBS.out; simp; omega) (fun k hk => (HO2.out.lt k hk).1)
          case measure => have := HJL.out; simp only [intOf]; omega
        · have hjj : j = L := by omega
          subst hjj
          have hLe : e - m = j := HLL.out.symm
          have hline : partVals (prtL p m j) ++ [.iface 9 (.string ⟨#[10]⟩)] = partVals (prtD p e) ∧ pl + 2 * j + 1 = (prtD p e).length := by
            have h1 := prt_line HM16.out HLT.out HE.out
            rw [hLe] at h1
            have h2 := congrArg List.length h1
            rw [List.length_append, prtL_len, HPL.out] at h2
            refine ⟨?_, by simpa using h2⟩
            rw [← h1]
            simp [partVals]
            rfl
          have HLINE := Lib.hid hline
          have k1 : decide ((j : Int) < (j : Int)) = false := decide_eq_false (by omega)
          clear hline ho2 hb2 hj hjl hbs
          go_wp2_with (at_builtin; refine wpList_append_row _ rfl (.tmp 47) (.tmp 49) 124 rfl (w.heap.size + 1) 20 i0 _ 1 16 Tryd.underlying124 HI.out HZ0.out HZ1.out HZ2.out rfl (by omega) (.slice A4 (pl + 2 * j) cc4) (pl + 2 * j) _ rfl (HO2.out.alloc _) _ (.slice (some ⟨wr.heap.size, 0, none⟩) 1 1) 1 [.iface 9 (.string ⟨#[10]⟩)] rfl (Row.of_own (own_lit wr [.iface 9 (.string ⟨#[10]⟩)] 20 (by simp))) (by simp [Value.oneCell']) (by unfold maxLen; omega) (by omega) (by have := HBS.out; simp; omega) ?_; intro v3 y3 hO5 hg3; have HO5 := Lib.hid hO5; have HG3 := Lib.hid hg3; clear hO5 hg3)
          go_roundw
          case rel =>
            refine ⟨m + 16, by have := HLT.out; omega, by have := HM16.out; omega, by go_num, ?_, ?_⟩
            · have := HO5.out
              rw [HLINE.out.1, HLINE.out.2] at this
              rw [HE.out] at this
              exact this
            · exact (HB3.out.alloc HBS.out _).grown HG3.out (by have := HBS.out; simp; omega) (fun k hk => (HO2.out.lt k hk).1)
          case measure => have := HLT.out; simp only [intOf]; omega
    · have hmn : min m p.data.length = p.data.length := by omega
      rw [hmn] at HO hpl
      have hO3 := HO.out
      rw [← prtC_zero] at hO3 hpl
      have HO3 := Lib.hid hO3
      have HPL := Lib.hid hpl
      have c0 := (KB0.out _ hb).cell (k := 0) rfl
      have nd : decide ((m : Int) < (p.data.length : Int)) = false := decide_eq_false (by omega)
      have nd2 : decide (m < p.data.length) = false := decide_eq_false (by omega)
      clear hmn hpl hO3 ho hb hm hm16 hlt
      go_wp2_with fail
      clear c0 c2 nd nd2
      go_loopw [3, 54] (fun v q wr2 => ∃ k : Nat, k ≤ p.code.length ∧ q = .int .i64 k ∧ wr2.ownsRow (w.heap.size + 1) 20 1 v (pl + 2 * k) (partVals (prtC p k)) ∧ Below (w.heap.size + 1) W wr2) (fun _ q _ => p.code.length - (intOf q).toNat)
      case atStart => exact ⟨0, Nat.zero_le _, rfl, HO3.out, HB.out⟩
      case round =>
        obtain ⟨k, hk, rfl, ho2, hb2⟩ := hrel
        have HO2 := Lib.hid ho2
        have HB3 := Lib.hid hb2
        obtain ⟨A4, cc4, rfl⟩ := (Row.of_own ho2).form
        have hbs : w.heap.size + 1 ≤ wr.heap.size := by have := hb2.size; rw [HWS.out] at this; exact this
        have HBS := Lib.hid hbs
        by_cases hkl : k < p.code.length
        · have hpc := (KP0.out _ hb2).code
          obtain ⟨g, o, rfl, hg, _⟩ := hpc.at_ (by omega)
          obtain ⟨I, hIe⟩ : ∃ I, I = p.code.getD k ins0 := ⟨_, rfl⟩
          have hIg : p.code[k]? = some I := by rw [hIe, List.getD_eq_getElem?_getD, List.getElem?_eq_getElem hkl]; rfl
          obtain ⟨x0, x1, x2, x3, x4⟩ := Row.ins (l := p.code) hpc (k := k) hIg
          have HDP : Hid (partVals (prtC p k) ++ [.iface 38 (.agg #[.int .i64 I.op, .int .i64 I.d, .int .i64 I.a, .int .i64 I.b, .int .i64 I.imm]), .iface 9 (.string ⟨#[10]⟩)] = partVals (prtC p (k + 1))) := Lib.hid (by rw [prtC_succ, hIe]; simp [partVals, codP]; exact ⟨rfl, rfl⟩)
          have hws2 : (wr.alloc (.cells #[.int .i64 I.op, .int .i64 I.d, .int .i64 I.a, .int .i64 I.b, .int .i64 I.imm] 38)).heap.size = wr.heap.size + 1 := by simp
          have ol := own_lit (wr.alloc (.cells #[.int .i64 I.op, .int .i64 I.d, .int .i64 I.a, .int .i64 I.b, .int .i64 I.imm] 38)) [.iface 38 (.agg #[.int .i64 I.op, .int .i64 I.d, .int .i64 I.a, .int .i64 I.b, .int .i64 I.imm]), .iface 9 (.string ⟨#[10]⟩)] 20 (by simp)
          rw [hws2] at ol
          have OL := Lib.hid (Row.of_own ol)
          have HWS2 := Lib.hid hws2
          have HKL := Lib.hid hkl
          have j0 : (0 : Int) ≤ k := by omega
          have j1 : (k : Int) < p.code.length := by omega
          have nk : decide ((k : Int) < (p.code.length : Int)) = true := decide_eq_true j1
          have h66 := H6.out
          clear hpc hIe hIg hg ol ho2 hb2 hk hkl hbs hws2
          go_wp2_with (at_builtin; refine wpList_append_row _ rfl (.tmp 58) (.tmp 62) 124 rfl (w.heap.size + 1) 20 i0 _ 1 16 Tryd.underlying124 HI.out HZ0.out HZ1.out HZ2.out rfl (by omega) (.slice A4 (pl + 2 * k) cc4) (pl + 2 * k) _ rfl ((HO2.out.alloc _).alloc _) _ (.slice (some ⟨wr.heap.size + 1, 0, none⟩) 2 2) 2 _ rfl OL.out (by simp [Value.oneCell']) (by unfold maxLen; omega) (by omega) (by have := HBS.out; simp; omega) ?_; intro v3 y3 hO5 hg3; have HO5 := Lib.hid hO5; have HG3 := Lib.hid hg3; clear hO5 hg3)
          go_roundw
          case rel =>
            refine ⟨k + 1, HKL.out, by go_num, ?_, ?_⟩
            · have := HO5.out
              rw [HDP.out] at this
              exact this
            · exact ((HB3.out.alloc HBS.out _).alloc (by have := HBS.out; rw [HWS2.out]; omega) _).grown HG3.out (by have := HBS.out; simp; omega) (fun k hk => (HO2.out.lt k hk).1)
          case measure => have := HKL.out; simp only [intOf]; omega
        · have hkk : k = p.code.length := by omega
          subst hkk
          have nk : decide ((p.code.length : Int) < (p.code.length : Int)) = false := decide_eq_false (by omega)
          have nk2 : decide (p.code.length < p.code.length) = false := decide_eq_false (by omega)
          have hlen : pl + 2 * p.code.length = (progParts p).length := by
            have : ∀ i, (prtC p i).length = (prtC p 0).length + 2 * i := by
              intro i
              induction i with
              | zero => rfl
              | succ i ih =>
                rw [prtC_succ, List.length_append, ih]
                have : (codP p i).length = 2 := rfl
                omega
            have h2 := this p.code.length
            rw [HPL.out] at h2
            exact h2.symm
          have HLEN := Lib.hid hlen
          clear hlen ho2 hb2 hk hkl hbs
          go_wp2_with fail
          go_ret
          refine ⟨_, rfl, ?_, HBW.out.trans (HB3.out.mono (Nat.le_succ _))⟩
          have := own_base HO2.out (Nat.le_succ w.heap.size)
          rw [HLEN.out] at this ⊢
          exact this
end Go.Proofs.YtcaibahniheohaaDoor.Words

/- Contract of show.Text. -/
namespace Go.Proofs.YtcaibahniheohaaDoor.Words
set_option maxRecDepth 100000
open Go.RowKit Go.Shelf Go.Lib
set_option linter.unusedVariables false
set_option linter.unusedSimpArgs false
abbrev progVal (A D : Option Addr) (c d : Nat) (p : Prog) : Value := .agg #[.slice A p.code.length c, .int .i64 p.size, .slice D p.data.length d]
def progPs (p : Prog) : List Part := if p.right = true then progParts p else []
set_option maxHeartbeats 4000000 in
theorem parts_prog (A D : Option Addr) (c d : Nat) (p : Prog) (w : World) (hP : ProgV w w.heap.size (.slice A p.code.length c) (.slice D p.data.length d) p) (hf : p.Fits) (h56 : p.right = true → p.data.length ≤ 1000 ∧ p.code.length ≤ 1000) :
    PartsAt w (.iface 26 (progVal A D c d p)) (progPs p) := by
  have a1 := as_pr (progVal A D c d p)
  have a2 := as_pi (progVal A D c d p)
  have a3 := as_pc (progVal A D c d p)
  have a4 := as_pp (progVal A D c d p)
  unfold progVal at a1 a2 a3 a4
  unfold zIns at a2
  unfold zCell at a3
  unfold PartsAt progVal
  obtain ⟨ps, hps⟩ : ∃ ps, progPs p = ps := ⟨_, rfl⟩
  rw [hps]
  have HPS := Lib.hid hps
  clear hps
  obtain ⟨u1, u2⟩ := hP.data.cap
  have hb1 := (Below.refl w.heap.size w).alloc (Nat.le_refl _) (.cells #[.int .i64 0, .int .i64 0, .int .i64 0, .int .i64 0, .int .i64 0] 38)
  have hb2 := hb1.alloc (by simp) (.cells #[.int .i64 0, .int .i64 0, .int .i64 0, .int .i64 0, .int .i64 0, .int .i64 0, .int .i64 0, .int .i64 0, .int .i64 0] 75)
  have hb3 := hb2.alloc (by simp; omega) (.cells #[.slice A p.code.length c, .int .i64 p.size, .slice D p.data.length d] 26)
  have hbx := Box.new ((w.alloc (.cells #[.int .i64 0, .int .i64 0, .int .i64 0, .int .i64 0, .int .i64 0] 38)).alloc (.cells #[.int .i64 0, .int .i64 0, .int .i64 0, .int .i64 0, .int .i64 0, .int .i64 0, .int .i64 0, .int .i64 0, .int .i64 0] 75)) [.slice A p.code.length c, .int .i64 p.size, .slice D p.data.length d] 26
  rw [show ((w.alloc (.cells #[.int .i64 0, .int .i64 0, .int .i64 0, .int .i64 0, .int .i64 0] 38)).alloc (.cells #[.int .i64 0, .int .i64 0, .int .i64 0, .int .i64 0, .int .i64 0, .int .i64 0, .int .i64 0, .int .i64 0, .int .i64 0] 75)).heap.size = w.heap.size + 2 by simp] at hbx
  have HB := Lib.hid hb3
  have HP := Lib.hid ((hP.below hb3).more hb3.size)
  have HX := Lib.hid hbx
  have hR := Lib.hid (fun (y : World) (h : ProgV y y.heap.size (.slice A p.code.length c) (.slice D p.data.length d) p) => imgRight_any A c p.size D p.data.length d p.code y h.code u1 u2)
  have hQ := Lib.hid (fun (y : World) (h : ProgV y y.heap.size (.slice A p.code.length c) (.slice D p.data.length d) p) (hr : p.right = true) => partsOfProg_any A D c d p y h hf (h56 hr).1 (h56 hr).2)
  have hgo : rightZ p.code p.size p.data.length = p.right := rfl
  rw [hgo] at hR
  clear hb1 hb2 hb3 hbx hP hgo hf h56 u1 u2
  go_enter Tryd.func71, Tryd.ntmps71
  go_wp2_with fail
  change Hid (Box (((w.alloc (.cells #[.int .i64 0, .int .i64 0, .int .i64 0, .int .i64 0, .int .i64 0] 38)).alloc (.cells #[.int .i64 0, .int .i64 0, .int .i64 0, .int .i64 0, .int .i64 0, .int .i64 0, .int .i64 0, .int .i64 0, .int .i64 0] 75)).alloc (.cells #[.slice A p.code.length c, .int .i64 p.size, .slice D p.data.length d] 26)) (w.heap.size + 2) _) at HX
  generalize (((w.alloc (.cells #[.int .i64 0, .int .i64 0, .int .i64 0, .int .i64 0, .int .i64 0] 38)).alloc (.cells #[.int .i64 0, .int .i64 0, .int .i64 0, .int .i64 0, .int .i64 0, .int .i64 0, .int .i64 0, .int .i64 0, .int .i64 0] 75)).alloc (.cells #[.slice A p.code.length c, .int .i64 p.size, .slice D p.data.length d] 26)) = W at *
  refine (hR.out _ HP.out).mono ?_
  rintro e w1 ⟨rfl, hb4⟩
  have hx1 := HX.out.below hb4 HX.out.lt
  have d0 := hx1.cell (k := 0) rfl
  have d1 := hx1.cell (k := 1) rfl
  have d2 := hx1.cell (k := 2) rfl
  have HB1 := Lib.hid (HB.out.trans (hb4.mono HB.out.size))
  have HP1 := Lib.hid ((HP.out.below hb4).more hb4.size)
  clear hb4 hx1
  cases hr : p.right
  · obtain rfl : [] = ps := by rw [← HPS.out]; unfold progPs; rw [hr]; rfl
    go_wp2_with fail
    go_ret
    exact ⟨_, rfl, World.ownsRow_nil _ _ _ _, HB1.out⟩
  · obtain rfl : progParts p = ps := by rw [← HPS.out]; unfold progPs; rw [hr]; rfl
    go_wp2_with fail
    refine (hQ.out _ HP1.out hr).mono ?_
    rintro e w2 ⟨v, rfl, ho, hb5⟩
    have HO := Lib.hid (own_base ho HB1.out.size)
    have HB2 := Lib.hid (HB1.out.trans (hb5.mono HB1.out.size))
    clear ho hb5 d0 d1 d2
    go_wp2_with fail
    go_ret
    exact ⟨v, rfl, HO.out, HB2.out⟩
set_option maxHeartbeats 1000000 in
theorem showText_any (A D : Option Addr) (c d : Nat) (p : Prog) (w : World) (hT : TabsS w) (hP : ProgV w w.heap.size (.slice A p.code.length c) (.slice D p.data.length d) p) (hf : p.Fits) (h56 : p.right = true → p.data.length ≤ 1000 ∧ p.code.length ≤ 1000) :
    Calls Tryd.prog 13 #[.agg #[.slice A p.code.length c, .int .i64 p.size, .slice D p.data.length d]] w fun e w' => e = .returned (.string (txt (textS p))) ∧ Below w.heap.size w w' := by
  have hb0 := (Below.refl w.heap.size w).alloc (Nat.le_refl _) (.cells #[.slice A p.code.length c, .int .i64 p.size, .slice D p.data.length d] 26)
  have HB0 := Lib.hid hb0
  have HT := Lib.hid (hT.below hb0)
  have hP0 := (hP.below hb0).more hb0.size
  obtain ⟨o, ho1, ho2⟩ : ∃ o : Option (List UInt8), o.getD [] = textS p ∧ ∀ X b vn vt, Below (w.alloc (.cells #[.slice A p.code.length c, .int .i64 p.size, .slice D p.data.length d] 26)).heap.size (w.alloc (.cells #[.slice A p.code.length c, .int .i64 p.size, .slice D p.data.length d] 26)) X → Wr X b vn vt [] → TabsSB b X →
      WriteAt X b vn vt [] (.iface 26 (progVal A D c d p)) o := by
    unfold textS
    cases hr : p.right
    · refine ⟨none, rfl, fun X b vn vt hX hw hTB => write_nothing_at (deep_prog _) ?_ hw⟩
      have := parts_prog A D c d p X ((hP0.below hX).more hX.size) hf h56
      unfold progPs at this
      rw [hr, if_neg (by decide)] at this
      exact this
    · refine ⟨some (showT p), by simp, fun X b vn vt hX hw hTB => ?_⟩
      have := parts_prog A D c d p X ((hP0.below hX).more hX.size) hf h56
      unfold progPs at this
      rw [hr, if_pos rfl] at this
      rw [← progParts_txt hr]
      obtain ⟨h5, h6⟩ := h56 hr
      obtain ⟨l1, l2⟩ := progParts_len p
      have hok := progParts_ok hr hf.2.2
      refine write_parts_at (B := 0) (deep_prog _) this (by omega) (by omega) hok (fun q hq => ?_) hw (Nat.le_refl _) hTB
      have hq' := hok q hq
      generalize hL : 60 * (progParts p).length = L at *
      have hL2 : L ≤ 400000 := by omega
      cases q with
      | s t => exact write_str (by omega) t (by have : t.length ≤ 60 := hq'; omega)
      | n k => exact write_int (by omega) k ⟨hq'.1, hq'.2.1⟩ (by have := hq'.2.2; omega)
      | op k => exact write_op (by omega) k hq'
      | reg k => exact write_reg (by omega) k hq'
      | ins j => exact write_ins (by omega) j hq'
  have cS := Lib.hid (shown_at ho2 (hT.below hb0))
  rw [ho1] at cS
  clear hT hb0 ho1 ho2 hP hP0 hf h56
  unfold progVal at cS
  go_enter Tryd.func13, Tryd.ntmps13
  go_wp2_with fail
  refine cS.out.mono ?_
  rintro e w1 ⟨rfl, hb1⟩
  have HB1 := Lib.hid (HB0.out.trans (hb1.mono HB0.out.size))
  clear hb1
  go_wp2_with fail
  go_ret
  exact ⟨rfl, HB1.out⟩
end Go.Proofs.YtcaibahniheohaaDoor.Words

/- The law's example of chapter 9. -/
namespace Go.Proofs.YtcaibahniheohaaDoor.Words
set_option maxRecDepth 100000
open Go.RowKit Go.Shelf Go.Lib
set_option linter.unusedVariables false
set_option linter.unusedSimpArgs false
theorem txt_isB (a b : List UInt8) (h : a = b) : ((txt a).toList == b) = true := by
  subst h
  rw [Lib.toList_data, txt_data]
  simp
set_option maxHeartbeats 2000000 in
theorem alive9_any (w : World) (hT : TabsS w) : Calls Tryd.prog 10 #[] w fun e w' => e = .returned (.bool true) ∧ Below w.heap.size w w' := by
  have c1 := showIns_any ⟨41, 0, 0, 0, 0⟩ (by unfold Ins.Fits; decide) w hT
  have C2 := Lib.hid (fun y hy => showIns_any ⟨26, 1, 2, 0, -4⟩ (by unfold Ins.Fits; decide) y hy)
  have C3 := Lib.hid (fun y hy => showCell_any ⟨5, ⟨0, 0, 0, 0, 0⟩, 3, 0, 0⟩ (by unfold Cel.Fits Ins.Fits; decide) y hy)
  have HT := Lib.hid hT
  have e1 := txt_isB (showZ ⟨41, 0, 0, 0, 0⟩) _ show_halt
  have e2 := txt_isB (showZ ⟨26, 1, 2, 0, -4⟩) _ show_lw
  have e3 := txt_isB (cellZ ⟨5, ⟨0, 0, 0, 0, 0⟩, 3, 0, 0⟩) _ cell_send
  generalize txt (showZ ⟨41, 0, 0, 0, 0⟩) = X1 at *
  generalize txt (showZ ⟨26, 1, 2, 0, -4⟩) = X2 at *
  generalize txt (cellZ ⟨5, ⟨0, 0, 0, 0, 0⟩, 3, 0, 0⟩) = X3 at *
  clear hT
  go_enter Tryd.func10, Tryd.ntmps10
  go_wp2_with fail
  refine c1.mono ?_
  rintro e w1 ⟨rfl, hb1⟩
  have HB1 := Lib.hid hb1
  have HT1 := Lib.hid (HT.out.below hb1)
  clear hb1 c1
  go_wp2_with fail
  refine (C2.out _ HT1.out).mono ?_
  rintro e w2 ⟨rfl, hb2⟩
  have HB2 := Lib.hid (HB1.out.trans (hb2.mono HB1.out.size))
  have HT2 := Lib.hid (HT1.out.below hb2)
  clear hb2
  go_wp2_with fail
  refine (C3.out _ HT2.out).mono ?_
  rintro e w3 ⟨rfl, hb3⟩
  have HB3 := Lib.hid (HB2.out.trans (hb3.mono HB2.out.size))
  clear hb3
  go_wp2_with fail
  go_ret
  exact ⟨by first | rfl | simp, HB3.out⟩
end Go.Proofs.YtcaibahniheohaaDoor.Words

/- Contracts of the laws' own helpers of chapter 4 that call nothing of the program: num, Few. -/
namespace Go.Proofs.YtcaibahniheohaaDoor.Words
set_option maxRecDepth 100000
open Go.RowKit
set_option linter.unusedVariables false
def fewB (n m : Nat) : Bool := decide (n ≤ 200 ∧ m ≤ 500)
set_option maxHeartbeats 400000 in
theorem few_any (A A' : Option Addr) (n c m c' : Nat) (sz : Int) (w : World) (hn : n ≤ 9223372036854775807) (hm : m ≤ 9223372036854775807) :
    Calls Tryd.prog 11 #[.agg #[.slice A n c, .int .i64 sz, .slice A' m c']] w fun e w' => e = .returned (.bool (fewB n m)) ∧ Below w.heap.size w w' := by
  by_cases h1 : n ≤ 200
  · by_cases h2 : m ≤ 500
    · have hr : fewB n m = true := decide_eq_true ⟨h1, h2⟩
      rw [hr]
      go_enter Tryd.func11, Tryd.ntmps11
      go_wp2_with fail
      go_ret
      exact ⟨by simp <;> omega, (Below.refl _ _).alloc (Nat.le_refl _) _⟩
    · have hr : fewB n m = false := decide_eq_false (fun h => h2 h.2)
      rw [hr]
      go_enter Tryd.func11, Tryd.ntmps11
      go_wp2_with fail
      go_ret
      exact ⟨by simp <;> omega, (Below.refl _ _).alloc (Nat.le_refl _) _⟩
  · have hr : fewB n m = false := decide_eq_false (fun h => h1 h.1)
    rw [hr]
    go_enter Tryd.func11, Tryd.ntmps11
    go_wp2_with fail
    go_ret
    exact ⟨by simp <;> omega, (Below.refl _ _).alloc (Nat.le_refl _) _⟩
end Go.Proofs.YtcaibahniheohaaDoor.Words
