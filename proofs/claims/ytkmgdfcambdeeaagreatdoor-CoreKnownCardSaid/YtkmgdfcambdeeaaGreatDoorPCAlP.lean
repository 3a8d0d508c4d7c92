/- Layer core: what its laws of the program alone stand on. No statement is proved here. -/
import Derived.Test.YtkmgdfcambdeeaaGreatDoorPbq
import Derived.Test.YtkmgdfcambdeeaaGreatDoorPav
import Derived.Test.YtkmgdfcambdeeaaGreatDoorPbp
import Derived.Test.YtkmgdfcambdeeaaGreatDoorPat
import Derived.Test.YtkmgdfcambdeeaaGreatDoorPax
import Derived.Test.YtkmgdfcambdeeaaGreatDoorPbc
import Derived.Test.YtkmgdfcambdeeaaGreatDoorPao
namespace Go.Proofs.YtkmgdfcambdeeaaGreatDoor
/-- What is kept: Bo Bo.start Bo.below Bo.nxt Bo.rxt Bo.push Bo.drew Bo.sub Bo.kr Bo.put Bo.putA Bo.putF
Bo.there Bo.range Bo.cell Bo.lt wpList_load_midg PutsIn.more reg_set reg_zF deB_lt fur_fit nxt_fit fit_ite
dDer_fit widI_le ldV_fit doF_fit From From.self fur_from from_ite dDer_from InMem wid_pos mem_open
doT_may ldV_from doF_from ovr_far10 ldC_eq ldC_own ovr_mine putB_len doG_from eqA_same fC_slice cp_same
part_cp part_ca fr_same fr_eql fr_guard fr_neq fr_nguard cpK frK fitL_split cp_of cps_of
frame_of  MemPost mem_any c1C p0C frL c1C_fit p0C_fit zC_fit zF_fit frL_fit
mk1 mk0 start_zz frame_any frA frB st1 sf1 st2 sf2 st3 st4
st5 st6 frA_fit frB_fit l1W l2W f2W l1W_len sl2 sg2 ld4 sl5
sg5 ld6 sf6 at_reg rs_range heap_setCells_ne St.putA works10_any isL isS isY memT
doT doF doG doL Nxt.ext ovr_get F0 L0 L0_len made_any store6 c64
c64B c64B_len L1 F3 L3 L4 L1_len L3_len make64 capV_c64 L3_at stF_F0
s1 s2 s3 s4 s5 s6 s7 s8 s9 own_rw St St.first
St.below St.nxt St.push St.drew St.sub St.list list_nil awW prow PutsIn PutsIn.below cell_lt10
puts_of Cp.C Cp.C_len fC fC_len fC_at fC_append fC_take fC_drop fC_set fC_one Cp.V
fV Fit zC reg reg_get Fit.reg Fit.set KR.reg zBox start_fc setCells_row KR.range
KR.part KR.there KR.put KR.putF KR.putA size_fr size_fa size_cp size_ca one_fr one_cp zF
zero_fr start_ff load_fr strData cells_of_strs own laidOut gNames gForms tNames tForms laidL
laidWorld laid_met tabs_of_laid Rw Rw.at KR KR.start KR.below KR.alloc KR.drew Rw.new KR.push
KR.sub KR.cell KR.soft KR.lt KR.far KR.set KR.swap Wd region_cls cls_call anyQL anyQL_out
anyQL_first anyQL_lex region_cls_tail cls_bel Cp Cp.fit Cp.lo Cp.hi Cp.inn Cp.free cAddr cAnd
cSet cExact cSeal cOpen cBuild cClear chg expo_small Cp.fit.bd chg_fit kp_same wi_refl
and_trans Cp.inn_trans Cp.inn_refl set_in chg_less pNext_any  pFetch_any  pTouch_any  
pDo_any pSound_any pWithin_any pIsNumber_cp pHolds_cp pMake_yes pNumber_any pNumber_cp asize_any aread_yes atag_any list_form6
alcap_yes alcap_cp aload_any astore_any ascap_any tgP_page tgl_len tgl_add tgl_page tgl_congr cap_eq cap_eq'
eqF_step below_drewN ret_bool ret_int ret_bb le_leB le_lt getB4_lt iv ir ins_eq start_fi
start_fib start_cc res_one res_two quiet_load_mid wyC isNumP region_new KS numC_fit furC fur_eq
jmpT pwayOf_any sapply below_own cut_base nxt_cut below_setCells at_there hoP wiP KT Nxt
Rxt RMade Made te_bounds bytesC_length u16_and_nat
-/
theorem alp10 : True := trivial
end Go.Proofs.YtkmgdfcambdeeaaGreatDoor
